package zone_test

import (
	"math"
	"testing"

	"testimony/api"
	"testimony/zone"
)

// write and read are ops of key 0 that came to their ends.
func write(proc, a, call, end int) api.Op {
	return api.Op{Proc: proc, Kind: api.Write, A: a, Call: call, Return: end}
}

func read(proc, result, call, end int) api.Op {
	return api.Op{Proc: proc, Kind: api.Read, Result: result, Call: call, Return: end}
}

// but is an op with a change.
func but(op api.Op, change func(*api.Op)) api.Op {
	change(&op)
	return op
}

// keyed are the ops, but of that key.
func keyed(key int, ops ...api.Op) []api.Op {
	for i := range ops {
		ops[i].Key = key
	}
	return ops
}

// checkFault asks whether all three tell want, without a place, and nothing beside it.
func checkFault(t *testing.T, name string, ops []api.Op, want api.Errno) {
	t.Helper()
	if err := zone.Check(ops); err != error(want) {
		t.Errorf("%s: Check tells %v, not %v", name, err, want)
	}
	checkNoZones(t, name, ops, want)
}

// checkNoZones asks it of Zones and of Fits.
func checkNoZones(t *testing.T, name string, ops []api.Op, want api.Errno) {
	t.Helper()
	if zones, err := zone.Zones(ops); err != error(want) || len(zones) != 0 {
		t.Errorf("%s: Zones tells %v, %v, not %v", name, zones, err, want)
	}
	if ok, a, b, err := zone.Fits(ops); ok || a != 0 || b != 0 || err != error(want) {
		t.Errorf("%s: Fits tells %v, %d, %d, %v, not %v", name, ok, a, b, err, want)
	}
}

func checkFine(t *testing.T, name string, ops ...api.Op) {
	t.Helper()
	if err := zone.Check(ops); err != nil {
		t.Errorf("%s: %v", name, err)
	}
}

// 5.1: what may be looked at.
func TestCheckFine(t *testing.T) {
	checkFine(t, "nothing")
	checkFine(t, "a write", write(0, 1, 0, 1))
	checkFine(t, "a read", read(0, 0, 0, 1))
	checkFine(t, "a read of what is not written", read(0, 7, 0, 1))
	checkFine(t, "values below 0", write(0, -1, 0, 1), write(1, -api.MaxNumber, 2, 3), read(0, -1, 4, 5))
	checkFine(t, "the greatest value", write(0, api.MaxNumber, 0, 1))
	checkFine(t, "one value read again and again", write(0, 1, 0, 1), read(0, 1, 2, 3), read(1, 1, 4, 5), read(0, 1, 6, 7))
	checkFine(t, "a read's A and B", but(read(0, 0, 0, 1), func(o *api.Op) { o.A, o.B = 3, 4 }))
	checkFine(t, "a read's A is none that is written", write(0, 3, 0, 1), but(read(0, 3, 2, 3), func(o *api.Op) { o.A = 3 }), but(read(0, 3, 4, 5), func(o *api.Op) { o.A = 3 }))
	checkFine(t, "a write's B", but(write(0, 1, 0, 1), func(o *api.Op) { o.B = 1 }), but(write(0, 2, 2, 3), func(o *api.Op) { o.B = 1 }))
	checkFine(t, "another key", keyed(api.MaxKeys-1, write(0, 1, 0, 1), read(1, 1, 2, 3))...)
}

// 5.1: what CheckOps says, ahead of all else.
func TestCheckOps(t *testing.T) {
	pop := api.Op{Kind: api.Pop, Call: 0, Return: 1}
	cases := []struct {
		name string
		ops  []api.Op
		want api.Errno
	}{
		{"a process beyond", []api.Op{write(api.MaxProcs, 1, 0, 1)}, api.ErrRange},
		{"a key beyond", keyed(api.MaxKeys, write(0, 1, 0, 1)), api.ErrRange},
		{"a value beyond", []api.Op{write(0, api.MaxNumber+1, 0, 1)}, api.ErrRange},
		{"a value far beyond", []api.Op{write(0, math.MinInt, 0, 1)}, api.ErrRange},
		{"no kind", []api.Op{{Call: 0, Return: 1}}, api.ErrArg},
		{"calls that don't rise", []api.Op{write(0, 1, 2, 3), read(1, 1, 0, 1)}, api.ErrOrder},
		{"an end ahead of its call", []api.Op{write(0, 1, 2, 1)}, api.ErrOrder},
		{"a time twice", []api.Op{write(0, 1, 0, 2), read(1, 1, 1, 2)}, api.ErrTwice},
		{"a process at two", []api.Op{write(0, 1, 0, 2), read(0, 1, 1, 3)}, api.ErrState},
		{"behind another form", []api.Op{pop, write(0, 1, 3, 2)}, api.ErrOrder},
		{"behind a value written twice", []api.Op{write(0, 1, 0, 1), write(0, 1, 2, 3), read(0, 1, 5, 5)}, api.ErrOrder},
	}
	for _, c := range cases {
		checkFault(t, c.name, c.ops, c.want)
	}
}

// 5.1: as many ops as may be, and one more.
func TestCheckLimit(t *testing.T) {
	var ops []api.Op
	for n := range api.MaxOps {
		ops = append(ops, write(n%api.MaxProcs, n+1, 2*n, 2*n+1))
	}
	checkFine(t, "just as many", ops...)
	checkFault(t, "one more", append(ops, write(0, 99, 98, 99)), api.ErrLimit)
}

// 5.1: ops of another form.
func TestCheckForm(t *testing.T) {
	first := write(0, 1, 0, 1)
	cases := []struct {
		name   string
		change func(*api.Op)
	}{
		{"no end", func(o *api.Op) { o.Return = -1 }},
		{"a read without an end", func(o *api.Op) { o.Kind, o.A, o.Return = api.Read, 0, -1 }},
		{"another key", func(o *api.Op) { o.Key = 3 }},
		{"a read of another key", func(o *api.Op) { o.Key, o.Kind, o.A = 3, api.Read, 0 }},
		{"a write of 0", func(o *api.Op) { o.A = 0 }},
		{"a write that tells something", func(o *api.Op) { o.Result = 2 }},
		{"a write that tells something below 0", func(o *api.Op) { o.Result = -1 }},
	}
	for _, c := range cases {
		checkFault(t, c.name, []api.Op{first, but(write(1, 2, 2, 3), c.change)}, api.ErrForm)
		checkFault(t, c.name+", in the middle", []api.Op{first, but(write(1, 2, 2, 3), c.change), write(2, 9, 4, 5)}, api.ErrForm)
	}
	for kind := api.Swap; kind <= api.Unlock; kind++ {
		op := but(write(0, 2, 2, 3), func(o *api.Op) { o.Kind = kind })
		checkFault(t, "a kind behind", []api.Op{first, op}, api.ErrForm)
		checkFault(t, "a kind alone", []api.Op{op}, api.ErrForm)
	}
	checkFault(t, "the first without an end", []api.Op{write(0, 1, 0, -1)}, api.ErrForm)
	checkFault(t, "the first writes 0", []api.Op{write(0, 0, 0, 1)}, api.ErrForm)
}

// 5.1: a value that was written ahead.
func TestCheckTwice(t *testing.T) {
	checkFault(t, "next to each other", []api.Op{write(0, 5, 0, 1), write(0, 5, 2, 3)}, api.ErrTwice)
	checkFault(t, "far from each other", []api.Op{write(0, 5, 0, 1), write(0, 6, 2, 3), read(0, 5, 4, 5), write(1, 5, 6, 7)}, api.ErrTwice)
	checkFault(t, "at the same time", []api.Op{write(0, -5, 0, 3), write(1, -5, 1, 2)}, api.ErrTwice)
	checkFine(t, "but for its sign", write(0, 5, 0, 1), write(0, -5, 2, 3))
}

// 5.1: op by op: of one op its form is told first, of two the first one's.
func TestCheckOpByOp(t *testing.T) {
	one, again := write(0, 5, 0, 1), write(1, 5, 2, 3)
	open := write(2, 6, 4, -1)
	checkFault(t, "both of one op", []api.Op{one, but(again, func(o *api.Op) { o.Key = 1 })}, api.ErrForm)
	checkFault(t, "both of one op, its Result", []api.Op{one, but(again, func(o *api.Op) { o.Result = 1 })}, api.ErrForm)
	checkFault(t, "twice, then a form", []api.Op{one, again, open}, api.ErrTwice)
	checkFault(t, "a form, then twice", []api.Op{one, write(2, 6, 2, -1), write(1, 5, 4, 5)}, api.ErrForm)
	checkFault(t, "ahead of what is read", []api.Op{read(0, 9, 0, 1), write(0, 0, 2, 3)}, api.ErrForm)
	checkFault(t, "ahead of what is read", []api.Op{read(0, 9, 0, 1), write(0, 5, 2, 3), write(0, 5, 4, 5)}, api.ErrTwice)
}
