package causal_test

import (
	"math"
	"testing"

	"testimony/api"
	"testimony/causal"
)

// write and read are ops that came to their ends.
func write(proc, key, a, call, end int) api.Op {
	return api.Op{Proc: proc, Key: key, Kind: api.Write, A: a, Call: call, Return: end}
}

func read(proc, key, result, call, end int) api.Op {
	return api.Op{Proc: proc, Key: key, Kind: api.Read, Result: result, Call: call, Return: end}
}

// but is an op with a change.
func but(op api.Op, change func(*api.Op)) api.Op {
	change(&op)
	return op
}

// checkFault asks whether all three tell want, without a place, and nothing beside it.
func checkFault(t *testing.T, name string, ops []api.Op, want api.Errno) {
	t.Helper()
	if err := causal.Check(ops); err != error(want) {
		t.Errorf("%s: Check tells %v, not %v", name, err, want)
	}
	if rows, err := causal.Ahead(ops); rows != nil || err != error(want) {
		t.Errorf("%s: Ahead tells %v, %v, not %v", name, rows, err, want)
	}
	if code, a, b, err := causal.Finds(ops); code != causal.Fine || a != 0 || b != 0 || err != error(want) {
		t.Errorf("%s: Finds tells %d, %d, %d, %v, not %v", name, code, a, b, err, want)
	}
}

func checkForm(t *testing.T, name string, ops ...api.Op) {
	t.Helper()
	if err := causal.Check(ops); err != nil {
		t.Errorf("%s: %v", name, err)
	}
}

// 7.1: what may be looked at.
func TestCheckFine(t *testing.T) {
	checkForm(t, "nothing")
	checkForm(t, "a write", write(0, 0, 1, 0, 1))
	checkForm(t, "a read of 0", read(0, 0, 0, 0, 1))
	checkForm(t, "a read of what is not written", read(0, 0, 7, 0, 1))
	checkForm(t, "values below 0", write(0, 0, -1, 0, 1), write(0, 0, -api.MaxNumber, 2, 3), read(1, 0, -1, 4, 5))
	checkForm(t, "the greatest value", write(0, 0, api.MaxNumber, 0, 1))
	checkForm(t, "several keys", write(0, 3, 1, 0, 1), read(1, 0, 0, 2, 3), write(2, api.MaxKeys-1, 2, 4, 5))
	checkForm(t, "a value at two keys", write(0, 3, 1, 0, 1), write(0, 4, 1, 2, 3))
	checkForm(t, "one value read again and again", read(0, 0, 1, 0, 1), read(0, 0, 1, 2, 3), write(1, 0, 1, 4, 5))
	checkForm(t, "a read's A and B", but(read(0, 0, 0, 0, 1), func(o *api.Op) { o.A, o.B = 5, 6 }))
	checkForm(t, "a read's A is none that is written", write(0, 0, 3, 0, 1), but(read(0, 0, 3, 2, 3), func(o *api.Op) { o.A = 3 }))
	checkForm(t, "a write's B", but(write(0, 0, 1, 0, 1), func(o *api.Op) { o.B = 9 }), but(write(0, 0, 2, 2, 3), func(o *api.Op) { o.B = 9 }))
}

// 7.1: what CheckOps says, ahead of all else.
func TestCheckOps(t *testing.T) {
	get := api.Op{Kind: api.Get, Call: 0, Return: 1}
	cases := []struct {
		name string
		ops  []api.Op
		want api.Errno
	}{
		{"a process beyond", []api.Op{write(api.MaxProcs, 0, 1, 0, 1)}, api.ErrRange},
		{"a key beyond", []api.Op{write(0, api.MaxKeys, 1, 0, 1)}, api.ErrRange},
		{"a key below 0", []api.Op{read(0, -1, 0, 0, 1)}, api.ErrRange},
		{"a value beyond", []api.Op{write(0, 0, api.MaxNumber+1, 0, 1)}, api.ErrRange},
		{"a value far beyond", []api.Op{read(0, 0, math.MinInt, 0, 1)}, api.ErrRange},
		{"no kind", []api.Op{{Call: 0, Return: 1}}, api.ErrArg},
		{"calls that don't rise", []api.Op{write(0, 0, 1, 2, 3), read(1, 0, 1, 0, 1)}, api.ErrOrder},
		{"an end ahead of its call", []api.Op{write(0, 0, 1, 2, 1)}, api.ErrOrder},
		{"a time twice", []api.Op{write(0, 0, 1, 0, 2), read(1, 0, 1, 1, 2)}, api.ErrTwice},
		{"a process at two", []api.Op{write(0, 0, 1, 0, 2), read(0, 0, 1, 1, 3)}, api.ErrState},
		{"behind another form", []api.Op{get, write(0, 0, 1, 3, 2)}, api.ErrOrder},
		{"behind a value written twice", []api.Op{write(0, 0, 1, 0, 1), write(0, 0, 1, 2, 3), read(0, 0, 1, 5, 5)}, api.ErrOrder},
	}
	for _, c := range cases {
		checkFault(t, c.name, c.ops, c.want)
	}
}

// 7.1: as many ops as may be, and one more.
func TestCheckLimit(t *testing.T) {
	var ops []api.Op
	for n := range api.MaxOps {
		ops = append(ops, write(n%api.MaxProcs, n%3, n+1, 2*n, 2*n+1))
	}
	checkForm(t, "just as many", ops...)
	checkFault(t, "one more", append(ops, write(0, 0, 99, 98, 99)), api.ErrLimit)
}

// 7.1: ops of another form.
func TestCheckForm(t *testing.T) {
	first := write(0, 0, 1, 0, 1)
	cases := []struct {
		name string
		op   api.Op
	}{
		{"a write without an end", write(1, 0, 2, 2, -1)},
		{"a read without an end", read(1, 0, 0, 2, -1)},
		{"a write of 0", write(1, 0, 0, 2, 3)},
		{"a write that tells something", but(write(1, 0, 2, 2, 3), func(o *api.Op) { o.Result = 2 })},
		{"a write that tells -1", but(write(1, 0, 2, 2, 3), func(o *api.Op) { o.Result = -1 })},
	}
	for _, c := range cases {
		checkFault(t, c.name, []api.Op{first, c.op}, api.ErrForm)
		checkFault(t, c.name+", in the middle", []api.Op{first, c.op, write(2, 0, 9, 4, 5)}, api.ErrForm)
	}
	for kind := api.Read; kind <= api.Unlock; kind++ {
		if kind == api.Read || kind == api.Write {
			continue
		}
		op := but(write(0, 0, 2, 2, 3), func(o *api.Op) { o.Kind = kind })
		checkFault(t, "a kind behind", []api.Op{first, op}, api.ErrForm)
		checkFault(t, "a kind alone", []api.Op{op}, api.ErrForm)
	}
	checkFault(t, "the first without an end", []api.Op{write(0, 0, 1, 0, -1)}, api.ErrForm)
	checkFault(t, "the first writes 0", []api.Op{write(0, 0, 0, 0, 1)}, api.ErrForm)
}

// 7.1: a value that was written to the key ahead.
func TestCheckTwice(t *testing.T) {
	checkFault(t, "next to each other", []api.Op{write(0, 0, 5, 0, 1), write(0, 0, 5, 2, 3)}, api.ErrTwice)
	checkFault(t, "far from each other", []api.Op{write(0, 4, 5, 0, 1), write(0, 4, 6, 2, 3), read(0, 4, 5, 4, 5), write(1, 4, 5, 6, 7)}, api.ErrTwice)
	checkFault(t, "at the same time", []api.Op{write(0, 0, -5, 0, 3), write(1, 0, -5, 1, 2)}, api.ErrTwice)
	checkFault(t, "another key between", []api.Op{write(0, 0, 5, 0, 1), write(0, 1, 5, 2, 3), write(0, 0, 5, 4, 5)}, api.ErrTwice)
	checkForm(t, "but for its sign", write(0, 0, 5, 0, 1), write(0, 0, -5, 2, 3))
	checkForm(t, "but for its key", write(0, 0, 5, 0, 1), write(0, 5, 5, 2, 3))
	checkForm(t, "read ahead", read(0, 0, 5, 0, 1), write(0, 0, 5, 2, 3))
}

// 7.1: op by op: of one op its form is told first, of two the first one's; what is read comes behind both.
func TestCheckOpByOp(t *testing.T) {
	one, again := write(0, 0, 5, 0, 1), write(1, 0, 5, 2, 3)
	checkFault(t, "both of one op", []api.Op{one, but(again, func(o *api.Op) { o.Return = -1 })}, api.ErrForm)
	checkFault(t, "both of one op, its Result", []api.Op{one, but(again, func(o *api.Op) { o.Result = 1 })}, api.ErrForm)
	checkFault(t, "twice, then a form", []api.Op{one, again, write(2, 0, 0, 4, 5)}, api.ErrTwice)
	checkFault(t, "a form, then twice", []api.Op{one, write(2, 0, 6, 2, -1), write(1, 0, 5, 4, 5)}, api.ErrForm)
	checkFault(t, "a form, behind a read of nothing", []api.Op{read(0, 0, 9, 0, 1), write(0, 0, 0, 2, 3)}, api.ErrForm)
	checkFault(t, "twice, behind a read of nothing", []api.Op{read(0, 0, 9, 0, 1), write(0, 0, 5, 2, 3), write(0, 0, 5, 4, 5)}, api.ErrTwice)
}
