package linear_test

import (
	"math"
	"slices"
	"testing"

	"testimony/api"
	"testimony/linear"
)

// done is an op of key 0 that came to its end.
func done(proc, kind, a, result, call, end int) api.Op {
	return api.Op{Proc: proc, Kind: kind, A: a, Result: result, Call: call, Return: end}
}

// open is an op of key 0 whose end is not known.
func open(proc, kind, a, call int) api.Op {
	return api.Op{Proc: proc, Kind: kind, A: a, Call: call, Return: -1}
}

// at is an op of another key.
func at(key int, op api.Op) api.Op {
	op.Key = key
	return op
}

// sameError holds an answer against an Errno without a place.
func sameError(err error, want api.Errno) bool {
	if want == api.OK {
		return err == nil
	}
	return err == want
}

// checkFault asks Check and Same whether they tell want, and nothing beside it.
func checkFault(t *testing.T, name string, object int, ops []api.Op, budget int, want api.Errno) {
	t.Helper()
	v, err := linear.Check(object, ops, budget)
	if !sameError(err, want) || want != api.OK && !isZero(v) {
		t.Errorf("%s: Check: %v, %v", name, v, err)
	}
	v, err = linear.Same(object, ops, budget)
	if !sameError(err, want) || want != api.OK && !isZero(v) {
		t.Errorf("%s: Same: %v, %v", name, v, err)
	}
}

// checkShowsFault asks Shows, of all ops in order of their calls.
func checkShowsFault(t *testing.T, name string, object int, ops []api.Op, want api.Errno) {
	t.Helper()
	order := make([]int, len(ops))
	for i := range order {
		order[i] = i
	}
	ok, err := linear.Shows(object, ops, order)
	if !sameError(err, want) || ok != (want == api.OK) {
		t.Errorf("%s: Shows: %v, %v", name, ok, err)
	}
}

func isZero(v linear.Verdict) bool { return v.Code == 0 && v.Order == nil && v.Entered == 0 }

// The codes are those of the chapter.
func TestCodes(t *testing.T) {
	if linear.Valid != 1 || linear.Invalid != 2 || linear.Unknown != 3 {
		t.Errorf("%d %d %d", linear.Valid, linear.Invalid, linear.Unknown)
	}
}

// 3.1: no such object; it is told ahead of all else.
func TestNoObject(t *testing.T) {
	bad := []api.Op{done(-1, api.Write, 1, 0, 0, 1)}
	for _, object := range []int{math.MinInt, -1, 0, api.Mutex + 1, 64, math.MaxInt} {
		checkFault(t, "alone", object, nil, 5, api.ErrArg)
		checkFault(t, "ahead of the budget", object, nil, -1, api.ErrArg)
		checkFault(t, "ahead of the ops", object, bad, 5, api.ErrArg)
		checkShowsFault(t, "alone", object, nil, api.ErrArg)
		checkShowsFault(t, "ahead of the ops", object, bad, api.ErrArg)
	}
	for object := api.Register; object <= api.Mutex; object++ {
		checkFault(t, "an object", object, nil, 5, api.OK)
		checkShowsFault(t, "an object", object, nil, api.OK)
	}
}

// 3.1: a budget is from 0 to MaxBudget; that is told ahead of the ops.
func TestBudgetRange(t *testing.T) {
	bad := make([]api.Op, api.MaxOps+1)
	for _, budget := range []int{math.MinInt, -1, api.MaxBudget + 1, math.MaxInt} {
		checkFault(t, "alone", api.Set, nil, budget, api.ErrRange)
		checkFault(t, "ahead of the ops", api.Set, bad, budget, api.ErrRange)
	}
	for _, budget := range []int{0, 1, api.MaxBudget} {
		checkFault(t, "a budget", api.Set, nil, budget, api.OK)
		checkFault(t, "then the ops", api.Set, bad, budget, api.ErrLimit)
	}
}

// 3.1: what CheckOps says, of each error that it has; it is told ahead of kinds that the object doesn't know.
func TestOpsFault(t *testing.T) {
	many := make([]api.Op, api.MaxOps+1)
	for i := range many {
		many[i] = done(0, api.Read, 0, 0, 2*i, 2*i+1)
	}
	read := done(0, api.Read, 0, 0, 0, 1)
	foreign := done(0, api.Pop, 0, -1, 0, 1)
	cases := []struct {
		name string
		ops  []api.Op
		want api.Errno
	}{
		{"too many", many, api.ErrLimit},
		{"just as many", many[:api.MaxOps], api.OK},
		{"a process beyond", []api.Op{done(api.MaxProcs, api.Read, 0, 0, 0, 1)}, api.ErrRange},
		{"a key beyond", []api.Op{at(api.MaxKeys, read)}, api.ErrRange},
		{"a kind beyond", []api.Op{done(0, api.Unlock+1, 0, 0, 0, 1)}, api.ErrArg},
		{"a call below 0", []api.Op{done(0, api.Read, 0, 0, -1, 1)}, api.ErrOrder},
		{"a time twice", []api.Op{read, done(1, api.Read, 0, 0, 1, 2)}, api.ErrTwice},
		{"behind what is not known", []api.Op{open(0, api.Read, 0, 0), done(0, api.Read, 0, 0, 1, 2)}, api.ErrState},
		{"a kind that it doesn't know", []api.Op{foreign}, api.ErrArg},
		{"a kind that it doesn't know, last", []api.Op{read, done(0, api.Lock, 0, 0, 2, 3)}, api.ErrArg},
		{"a kind that it doesn't know, its end not known", []api.Op{open(0, api.Add, 0, 0)}, api.ErrArg},
		{"ahead of such a kind", []api.Op{foreign, done(0, api.Read, 0, 0, 2, 2)}, api.ErrOrder},
	}
	for _, c := range cases {
		checkFault(t, c.name, api.Register, c.ops, 100, c.want)
		checkShowsFault(t, c.name, api.Register, c.ops, c.want)
	}
}

type showsCase struct {
	name  string
	order []int
	want  bool
}

func checkShows(t *testing.T, object int, ops []api.Op, cases []showsCase) {
	t.Helper()
	for _, c := range cases {
		got, err := linear.Shows(object, ops, c.order)
		if got != c.want || err != nil {
			t.Errorf("%s: %v: %v, %v", c.name, c.order, got, err)
		}
	}
}

// 3.2: each op at most once and none else, those with an end all, in the order of time.
func TestShows(t *testing.T) {
	ops := []api.Op{
		done(0, api.Write, 1, 0, 0, 3),
		open(1, api.Write, 2, 1),
		done(2, api.Read, 0, 1, 2, 5),
		open(0, api.Write, 1, 4),
	}
	checkShows(t, api.Register, ops, []showsCase{
		{"those with an end", []int{0, 2}, true},
		{"all", []int{0, 2, 1, 3}, true},
		{"what is not known ahead", []int{1, 0, 2}, true},
		{"what is not known between", []int{0, 1, 3, 2}, true},
		{"told something else", []int{0, 1, 2}, false},
		{"told something else at first", []int{2, 0}, false},
		{"one with an end is not there", []int{0}, false},
		{"nor the other one", []int{2}, false},
		{"nothing", nil, false},
		{"what is not known alone", []int{1, 3}, false},
		{"one behind one that it is Before", []int{3, 0, 2}, false},
		{"the same, one between", []int{3, 1, 0, 2}, false},
		{"twice", []int{0, 2, 2}, false},
		{"twice, the first one", []int{0, 0, 2}, false},
		{"twice, not known", []int{1, 1, 0, 2}, false},
		{"instead of another one", []int{0, 0}, false},
	})
}

// 3.2: numbers that are no op's, and lists that are longer than the ops.
func TestShowsNoOpsNumber(t *testing.T) {
	ops := []api.Op{done(0, api.Write, 1, 0, 0, 1), done(0, api.Read, 0, 1, 2, 3)}
	for _, n := range []int{math.MinInt, -64, -1, 2, 63, 64, 65, math.MaxInt} {
		checkShows(t, api.Register, ops, []showsCase{
			{"behind", []int{0, 1, n}, false},
			{"ahead", []int{n, 0, 1}, false},
			{"instead", []int{0, n}, false},
		})
	}
	checkShows(t, api.Register, ops, []showsCase{
		{"long", make([]int, 1_000_000), false},
		{"as it is", []int{0, 1}, true},
	})
	checkShows(t, api.Register, nil, []showsCase{{"no ops", []int{0}, false}, {"no ops, nothing", nil, true}})
}

// 3.2: the order of time counts, though what was told would be the same.
func TestShowsTime(t *testing.T) {
	ops := []api.Op{done(0, api.Read, 0, 0, 0, 2), done(1, api.Read, 0, 0, 1, 4), at(5, done(2, api.Read, 0, 0, 3, 5))}
	checkShows(t, api.Register, ops, []showsCase{
		{"by calls", []int{0, 1, 2}, true},
		{"at the same time", []int{1, 0, 2}, true},
		{"at the same time, another key", []int{0, 2, 1}, true},
		{"Before, another key", []int{2, 0, 1}, false},
		{"Before, one between", []int{1, 2, 0}, false},
	})
}

// 3.2: Run tells -1: a call that can't be done does not show it, even one whose end is not known.
func TestShowsRun(t *testing.T) {
	ops := []api.Op{open(0, api.Unlock, 0, 0), done(1, api.Lock, 0, 0, 1, 2)}
	checkShows(t, api.Mutex, ops, []showsCase{
		{"free already", []int{0, 1}, false},
		{"then", []int{1, 0}, true},
		{"without it", []int{1}, true},
	})
}

// P4: what is handed in is left as it is, and what comes out is the caller's.
func TestLeavesLists(t *testing.T) {
	ops := []api.Op{done(0, api.Put, 2, 1, 0, 3), done(1, api.Put, 1, 1, 1, 2), done(1, api.Drop, 2, 1, 4, 5)}
	order := []int{1, 0, 2}
	ops2, order2 := slices.Clone(ops), slices.Clone(order)
	v, _ := linear.Check(api.Set, ops, 100)
	w, _ := linear.Same(api.Set, ops, 100)
	linear.Shows(api.Set, ops, order)
	if !slices.Equal(ops, ops2) || !slices.Equal(order, order2) {
		t.Errorf("%v, %v are left", ops, order)
	}
	clear(v.Order)
	again, _ := linear.Check(api.Set, ops, 100)
	if !slices.Equal(again.Order, []int{0, 1, 2}) || !slices.Equal(w.Order, []int{0, 1, 2}) {
		t.Errorf("%v, %v", again, w)
	}
}
