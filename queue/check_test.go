package queue_test

import (
	"math"
	"testing"

	"testimony/api"
	"testimony/queue"
)

// push and pop are ops of key 0 that came to their ends.
func push(proc, a, call, end int) api.Op {
	return api.Op{Proc: proc, Kind: api.Push, A: a, Call: call, Return: end}
}

func pop(proc, result, call, end int) api.Op {
	return api.Op{Proc: proc, Kind: api.Pop, Result: result, Call: call, Return: end}
}

// but is an op with a change.
func but(op api.Op, change func(*api.Op)) api.Op {
	change(&op)
	return op
}

// keyed are the ops, but of that key.
func keyed(key int, ops ...api.Op) []api.Op {
	for i := range ops {
		ops[i].Key = key
	}
	return ops
}

// checkFault asks whether both tell want, without a place, and nothing beside it.
func checkFault(t *testing.T, name string, ops []api.Op, want api.Errno) {
	t.Helper()
	if err := queue.Check(ops); err != error(want) {
		t.Errorf("%s: Check tells %v, not %v", name, err, want)
	}
	if code, a, b, err := queue.Finds(ops); code != queue.Fine || a != 0 || b != 0 || err != error(want) {
		t.Errorf("%s: Finds tells %d, %d, %d, %v, not %v", name, code, a, b, err, want)
	}
}

func checkForm(t *testing.T, name string, ops ...api.Op) {
	t.Helper()
	if err := queue.Check(ops); err != nil {
		t.Errorf("%s: %v", name, err)
	}
}

// 6.1: what may be looked at.
func TestCheckFine(t *testing.T) {
	checkForm(t, "nothing")
	checkForm(t, "a push", push(0, 1, 0, 1))
	checkForm(t, "a pop", pop(0, 1, 0, 1))
	checkForm(t, "0", push(0, 0, 0, 1), pop(0, 0, 2, 3))
	checkForm(t, "values below 0", push(0, -2, 0, 1), push(1, -api.MaxNumber, 2, 3), pop(0, -2, 4, 5))
	checkForm(t, "the greatest value", push(0, api.MaxNumber, 0, 1))
	checkForm(t, "one value popped again and again", pop(0, 1, 0, 1), pop(0, 1, 2, 3), pop(1, 1, 4, 5))
	checkForm(t, "a pop's A and B", but(pop(0, 0, 0, 1), func(o *api.Op) { o.A, o.B = -1, 4 }))
	checkForm(t, "a pop's A is none that is pushed", push(0, 3, 0, 1), but(pop(0, 3, 2, 3), func(o *api.Op) { o.A = 3 }))
	checkForm(t, "a push's B", but(push(0, 1, 0, 1), func(o *api.Op) { o.B = -1 }), but(push(0, 2, 2, 3), func(o *api.Op) { o.B = -1 }))
	checkForm(t, "another key", keyed(api.MaxKeys-1, push(0, 1, 0, 1), pop(1, 1, 2, 3))...)
}

// 6.1: what CheckOps says, ahead of all else.
func TestCheckOps(t *testing.T) {
	read := api.Op{Kind: api.Read, Call: 0, Return: 1}
	cases := []struct {
		name string
		ops  []api.Op
		want api.Errno
	}{
		{"a process beyond", []api.Op{push(api.MaxProcs, 1, 0, 1)}, api.ErrRange},
		{"a key beyond", keyed(api.MaxKeys, push(0, 1, 0, 1)), api.ErrRange},
		{"a value beyond", []api.Op{push(0, api.MaxNumber+1, 0, 1)}, api.ErrRange},
		{"a value far beyond", []api.Op{pop(0, math.MinInt, 0, 1)}, api.ErrRange},
		{"no kind", []api.Op{{Call: 0, Return: 1}}, api.ErrArg},
		{"calls that don't rise", []api.Op{push(0, 1, 2, 3), pop(1, 1, 0, 1)}, api.ErrOrder},
		{"an end ahead of its call", []api.Op{push(0, 1, 2, 1)}, api.ErrOrder},
		{"a time twice", []api.Op{push(0, 1, 0, 2), pop(1, 1, 1, 2)}, api.ErrTwice},
		{"a process at two", []api.Op{push(0, 1, 0, 2), pop(0, 1, 1, 3)}, api.ErrState},
		{"behind another form", []api.Op{read, push(0, 1, 3, 2)}, api.ErrOrder},
		{"behind a value pushed twice", []api.Op{push(0, 1, 0, 1), push(0, 1, 2, 3), pop(0, 1, 5, 5)}, api.ErrOrder},
	}
	for _, c := range cases {
		checkFault(t, c.name, c.ops, c.want)
	}
}

// 6.1: as many ops as may be, and one more.
func TestCheckLimit(t *testing.T) {
	var ops []api.Op
	for n := range api.MaxOps {
		ops = append(ops, push(n%api.MaxProcs, n, 2*n, 2*n+1))
	}
	checkForm(t, "just as many", ops...)
	checkFault(t, "one more", append(ops, push(0, 99, 98, 99)), api.ErrLimit)
}

// 6.1: ops of another form.
func TestCheckForm(t *testing.T) {
	first := push(0, 1, 0, 1)
	cases := []struct {
		name string
		op   api.Op
	}{
		{"a push without an end", push(1, 2, 2, -1)},
		{"a pop without an end", pop(1, 0, 2, -1)},
		{"a push of another key", keyed(3, push(1, 2, 2, 3))[0]},
		{"a pop of another key", keyed(3, pop(1, 1, 2, 3))[0]},
		{"a push of -1", push(1, -1, 2, 3)},
		{"a push that tells something", but(push(1, 2, 2, 3), func(o *api.Op) { o.Result = 2 })},
		{"a push that tells -1", but(push(1, 2, 2, 3), func(o *api.Op) { o.Result = -1 })},
		{"a pop of nothing", pop(1, -1, 2, 3)},
	}
	for _, c := range cases {
		checkFault(t, c.name, []api.Op{first, c.op}, api.ErrForm)
		checkFault(t, c.name+", in the middle", []api.Op{first, c.op, push(2, 9, 4, 5)}, api.ErrForm)
	}
	for kind := api.Read; kind <= api.Unlock; kind++ {
		if kind == api.Push || kind == api.Pop {
			continue
		}
		op := but(push(0, 2, 2, 3), func(o *api.Op) { o.Kind = kind })
		checkFault(t, "a kind behind", []api.Op{first, op}, api.ErrForm)
		checkFault(t, "a kind alone", []api.Op{op}, api.ErrForm)
	}
	checkFault(t, "the first without an end", []api.Op{push(0, 1, 0, -1)}, api.ErrForm)
	checkFault(t, "the first pops nothing", []api.Op{pop(0, -1, 0, 1)}, api.ErrForm)
}

// 6.1: a value that was pushed ahead; also if it was popped in between.
func TestCheckTwice(t *testing.T) {
	checkFault(t, "next to each other", []api.Op{push(0, 5, 0, 1), push(0, 5, 2, 3)}, api.ErrTwice)
	checkFault(t, "far from each other", []api.Op{push(0, 5, 0, 1), push(0, 6, 2, 3), pop(0, 5, 4, 5), push(1, 5, 6, 7)}, api.ErrTwice)
	checkFault(t, "at the same time", []api.Op{push(0, -5, 0, 3), push(1, -5, 1, 2)}, api.ErrTwice)
	checkFault(t, "0", []api.Op{push(0, 0, 0, 1), push(0, 0, 2, 3)}, api.ErrTwice)
	checkForm(t, "but for its sign", push(0, 5, 0, 1), push(0, -5, 2, 3))
	checkForm(t, "popped ahead", pop(0, 5, 0, 1), push(0, 5, 2, 3))
}

// 6.1: op by op: of one op its form is told first, of two the first one's.
func TestCheckOpByOp(t *testing.T) {
	one, again := push(0, 5, 0, 1), push(1, 5, 2, 3)
	checkFault(t, "both of one op", []api.Op{one, but(again, func(o *api.Op) { o.Key = 1 })}, api.ErrForm)
	checkFault(t, "both of one op, its Result", []api.Op{one, but(again, func(o *api.Op) { o.Result = 1 })}, api.ErrForm)
	checkFault(t, "twice, then a form", []api.Op{one, again, pop(2, -1, 4, 5)}, api.ErrTwice)
	checkFault(t, "a form, then twice", []api.Op{one, push(2, 6, 2, -1), push(1, 5, 4, 5)}, api.ErrForm)
	checkFault(t, "ahead of what is popped", []api.Op{pop(0, 9, 0, 1), push(0, -1, 2, 3)}, api.ErrForm)
	checkFault(t, "ahead of what is popped", []api.Op{pop(0, 9, 0, 1), push(0, 5, 2, 3), push(0, 5, 4, 5)}, api.ErrTwice)
}
