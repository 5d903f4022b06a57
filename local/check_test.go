package local_test

import (
	"math"
	"reflect"
	"runtime"
	"slices"
	"testing"
	"time"

	"testimony/api"
	"testimony/linear"
	"testimony/local"
)

// someWorkers are the edges of how many there may be, those of how many keys there are, and some between.
func someWorkers() []int { return []int{1, 2, 3, 7, 8, 9, 63, 64} }

// all is Valid, with these orders of the first keys, and none of the others.
func all(orders ...[]int) local.Verdict {
	for len(orders) < api.MaxKeys {
		orders = append(orders, nil)
	}
	return local.Verdict{Code: linear.Valid, Key: -1, Orders: orders}
}

func bad(key int) local.Verdict { return local.Verdict{Code: linear.Invalid, Key: key} }

func unsure(key int) local.Verdict { return local.Verdict{Code: linear.Unknown, Key: key} }

func sameVerdict(a, b local.Verdict) bool {
	return a.Code == b.Code && a.Key == b.Key && slices.EqualFunc(a.Orders, b.Orders, slices.Equal[[]int])
}

// checkVerdict asks by several numbers of workers.
func checkVerdict(t *testing.T, name string, object int, ops []api.Op, budget int, want local.Verdict) {
	t.Helper()
	for _, workers := range someWorkers() {
		got, err := local.Check(object, ops, budget, workers)
		if err != nil || !sameVerdict(got, want) {
			t.Errorf("%s, budget %d, workers %d: %v, %v, not %v", name, budget, workers, got, err, want)
		}
	}
}

// checkFault asks whether Check tells want, without a place, and nothing beside it.
func checkFault(t *testing.T, name string, object int, ops []api.Op, budget, workers int, want api.Errno) {
	t.Helper()
	v, err := local.Check(object, ops, budget, workers)
	if err != error(want) || !reflect.DeepEqual(v, local.Verdict{}) {
		t.Errorf("%s, object %d, budget %d, workers %d: %v, %v, not %v", name, object, budget, workers, v, err, want)
	}
}

// pair is a write of 1 to a register, and a read behind it, in the 4 times from call on.
func pair(key, read, call int) []api.Op {
	return []api.Op{done(0, key, api.Write, 1, 0, call, call+1), done(1, key, api.Read, 0, read, call+2, call+3)}
}

// race is two writes of a register at the same time, of which the second must be first: 5 states are entered for it (of a read of 1; of 3 none is found).
func race(key, read, call int) []api.Op {
	return []api.Op{
		done(0, key, api.Write, 1, 0, call, call+3),
		done(1, key, api.Write, 2, 0, call+1, call+2),
		done(0, key, api.Read, 0, read, call+4, call+5),
	}
}

// 4.2: no such object; it is told ahead of all else.
func TestNoObject(t *testing.T) {
	wrong := []api.Op{done(-1, 0, api.Write, 1, 0, 0, 1)}
	for _, object := range []int{math.MinInt, -1, 0, api.Mutex + 1, math.MaxInt} {
		checkFault(t, "alone", object, nil, 5, 1, api.ErrArg)
		checkFault(t, "ahead of the ops", object, wrong, 5, 1, api.ErrArg)
		checkFault(t, "ahead of the budget", object, nil, -1, 1, api.ErrArg)
		checkFault(t, "ahead of the workers", object, nil, 5, 0, api.ErrArg)
	}
	for object := api.Register; object <= api.Mutex; object++ {
		checkVerdict(t, "an object", object, nil, 5, all())
	}
}

// 4.2: what Shows says of all ops together, ahead of what is wrong with budget and workers.
func TestOpsFault(t *testing.T) {
	many := make([]api.Op, api.MaxOps+1)
	for i := range many {
		many[i] = done(0, i%api.MaxKeys, api.Read, 0, 0, 2*i, 2*i+1)
	}
	read := done(0, 0, api.Read, 0, 0, 0, 1)
	foreign := done(0, 0, api.Pop, 0, -1, 0, 1)
	cases := []struct {
		name string
		ops  []api.Op
		want api.Errno
	}{
		{"too many together, few of each key", many, api.ErrLimit},
		{"a process beyond", []api.Op{done(api.MaxProcs, 0, api.Read, 0, 0, 0, 1)}, api.ErrRange},
		{"a key beyond", []api.Op{read, done(0, api.MaxKeys, api.Read, 0, 0, 2, 3)}, api.ErrRange},
		{"a key below", []api.Op{read, done(0, -1, api.Read, 0, 0, 2, 3)}, api.ErrRange},
		{"a kind beyond", []api.Op{done(0, 0, api.Unlock+1, 0, 0, 0, 1)}, api.ErrArg},
		{"a call below 0", []api.Op{done(0, 0, api.Read, 0, 0, -1, 1)}, api.ErrOrder},
		{"calls that rise in each key alone", []api.Op{done(0, 0, api.Read, 0, 0, 2, 3), done(1, 1, api.Read, 0, 0, 0, 1)}, api.ErrOrder},
		{"a time twice, in two keys", []api.Op{read, done(1, 1, api.Read, 0, 0, 1, 2)}, api.ErrTwice},
		{"a process at two keys", []api.Op{done(0, 0, api.Read, 0, 0, 0, 2), done(0, 1, api.Read, 0, 0, 1, 3)}, api.ErrState},
		{"behind what is not known, in another key", []api.Op{open(0, 0, api.Read, 0, 0), done(0, 1, api.Read, 0, 0, 1, 2)}, api.ErrState},
		{"a kind that it doesn't know", []api.Op{foreign}, api.ErrArg},
		{"a kind that it doesn't know, last", []api.Op{read, done(0, 7, api.Lock, 0, 0, 2, 3)}, api.ErrArg},
		{"ahead of such a kind", []api.Op{foreign, done(0, 1, api.Read, 0, 0, 2, 2)}, api.ErrOrder},
	}
	for _, c := range cases {
		checkFault(t, c.name, api.Register, c.ops, 100, 2, c.want)
		checkFault(t, c.name, api.Register, c.ops, -1, 2, c.want)
		checkFault(t, c.name, api.Register, c.ops, 100, 65, c.want)
	}
	if v, err := local.Check(api.Register, many[:api.MaxOps], 100, 2); v.Code != linear.Valid || err != nil {
		t.Errorf("just as many: %v, %v", v, err)
	}
}

// 4.2: a budget is from 0 to MaxBudget, workers are from 1 to 64; neither is told of ops alone.
func TestBudgetAndWorkersRange(t *testing.T) {
	ops := [][]api.Op{nil, pair(0, 1, 0), pair(3, 2, 0)}
	for _, l := range ops {
		for _, budget := range []int{math.MinInt, -1, api.MaxBudget + 1, math.MaxInt} {
			checkFault(t, "budget", api.Register, l, budget, 1, api.ErrRange)
			checkFault(t, "both", api.Register, l, budget, 0, api.ErrRange)
		}
		for _, workers := range []int{math.MinInt, -1, 0, 65, math.MaxInt} {
			checkFault(t, "workers", api.Register, l, 0, workers, api.ErrRange)
			checkFault(t, "workers", api.Register, l, 100, workers, api.ErrRange)
		}
	}
	for _, budget := range []int{0, 1, api.MaxBudget} {
		checkVerdict(t, "a budget", api.Register, nil, budget, all())
	}
}

// 4.2: Valid, if all keys are: each has its order, in numbers of all ops.
func TestValid(t *testing.T) {
	checkVerdict(t, "nothing", api.Register, nil, 0, all())
	checkVerdict(t, "one key", api.Register, pair(0, 1, 0), 100, all([]int{0, 1}))
	checkVerdict(t, "another key", api.Register, pair(2, 1, 0), 100, all(nil, nil, []int{0, 1}))
	mixed := []api.Op{
		done(2, 1, api.Write, 7, 0, 0, 1),
		done(0, 0, api.Write, 1, 0, 2, 7),
		done(1, 0, api.Write, 2, 0, 3, 4),
		done(2, 1, api.Read, 0, 7, 5, 6),
		done(0, 0, api.Read, 0, 1, 8, 9),
		done(2, 7, api.Read, 0, 0, 10, 11),
	}
	checkVerdict(t, "mixed", api.Register, mixed, 100, all([]int{2, 1, 4}, []int{0, 3}, nil, nil, nil, nil, nil, []int{5}))
}

// 4.2: what is not known may be done or not, as chapter 3 says, key by key.
func TestValidNotKnown(t *testing.T) {
	ops := []api.Op{
		open(0, 1, api.Write, 1, 0),
		open(1, 0, api.Write, 5, 1),
		done(2, 1, api.Read, 0, 0, 2, 3),
		done(2, 0, api.Read, 0, 0, 4, 5),
		done(2, 1, api.Read, 0, 1, 6, 7),
	}
	checkVerdict(t, "late, and not at all", api.Register, ops, 100, all([]int{3}, []int{2, 0, 4}))
	checkVerdict(t, "all are not known", api.Register, ops[:2], 0, all())
}

// 4.2: Invalid, if one key is, with the least such key, and no orders.
func TestInvalid(t *testing.T) {
	for key := range api.MaxKeys {
		ops := slices.Concat(pair((key+1)%api.MaxKeys, 1, 0), pair(key, 2, 4))
		checkVerdict(t, "one is", api.Register, ops, 100, bad(key))
	}
	checkVerdict(t, "two are, the lesser one first", api.Register, slices.Concat(pair(3, 2, 0), pair(6, 2, 4)), 100, bad(3))
	checkVerdict(t, "two are, the lesser one last", api.Register, slices.Concat(pair(6, 2, 0), pair(3, 2, 4)), 100, bad(3))
	var ops []api.Op
	for key := range api.MaxKeys {
		ops = append(ops, pair(api.MaxKeys-1-key, 2, 4*key)...)
	}
	checkVerdict(t, "all are", api.Register, ops, 100, bad(0))
}

// 4.2: Unknown, if one key is and none is Invalid, with the least such key, and no orders.
func TestUnknown(t *testing.T) {
	for key := range api.MaxKeys {
		ops := slices.Concat(pair((key+1)%api.MaxKeys, 1, 0), race(key, 1, 4))
		checkVerdict(t, "one is", api.Register, ops, 4, unsure(key))
	}
	checkVerdict(t, "two are, the lesser one first", api.Register, slices.Concat(race(3, 1, 0), race(6, 3, 6)), 4, unsure(3))
	checkVerdict(t, "two are, the lesser one last", api.Register, slices.Concat(race(6, 1, 0), race(3, 3, 6)), 4, unsure(3))
	checkVerdict(t, "none may be entered", api.Register, slices.Concat(pair(5, 1, 0), pair(2, 2, 4)), 0, unsure(2))
}

// 4.2: Invalid is told though another key is Unknown, whichever is less.
func TestInvalidAheadOfUnknown(t *testing.T) {
	checkVerdict(t, "Unknown is less", api.Register, slices.Concat(race(1, 1, 0), pair(5, 2, 6)), 2, bad(5))
	checkVerdict(t, "Invalid is less", api.Register, slices.Concat(pair(1, 2, 0), race(5, 1, 4)), 2, bad(1))
	checkVerdict(t, "both on both sides", api.Register, slices.Concat(race(0, 1, 0), pair(4, 2, 6), race(2, 1, 10), pair(3, 2, 16)), 2, bad(3))
}

// 4.2: the budget is each key's, not of all together.
func TestBudgetOfEachKey(t *testing.T) {
	var ops []api.Op
	var orders [][]int
	for key := range api.MaxKeys {
		ops = append(ops, race(key, 1, 6*key)...)
		orders = append(orders, []int{3*key + 1, 3 * key, 3*key + 2})
	}
	checkVerdict(t, "as many as each takes", api.Register, ops, 5, all(orders...))
	checkVerdict(t, "one too few", api.Register, ops, 4, unsure(0))
}

// 4.2: keys are looked at alone, also where together the search would go on too long.
func TestKeysAlone(t *testing.T) {
	var ops []api.Op
	for i := range api.MaxOps {
		round := i / api.MaxProcs * 2 * api.MaxProcs
		op := done(i%api.MaxProcs, i%api.MaxKeys, api.Push, i, 0, round+i%api.MaxProcs, round+i%api.MaxProcs+api.MaxProcs)
		ops = append(ops, op)
	}
	last := &ops[api.MaxOps-1]
	last.Kind, last.A, last.Result = api.Pop, 0, 99
	if v, err := linear.Check(api.Queue, ops, 1000); v.Code != linear.Unknown || err != nil {
		t.Errorf("together: %v, %v", v, err)
	}
	checkVerdict(t, "alone", api.Queue, ops, 1000, bad(api.MaxKeys-1))
}

// 4.2: the order is that of time: that of processes alone is not enough.
func TestOrderOfTime(t *testing.T) {
	checkVerdict(t, "an old value", api.Register, pair(4, 0, 0), 100, bad(4))
}

// P4: the ops stay as they are, also behind their length; orders share no memory; the answer hangs on no call ahead.
func TestCheckMemory(t *testing.T) {
	room := slices.Concat(race(0, 1, 0), race(1, 1, 6), pair(2, 2, 12))
	was := slices.Clone(room)
	ops, want := room[:6], all([]int{1, 0, 2}, []int{4, 3, 5})
	v, err := local.Check(api.Register, ops, 100, 3)
	if err != nil || !sameVerdict(v, want) {
		t.Fatalf("%v, %v", v, err)
	}
	for key := range v.Orders {
		for i := range v.Orders[key] {
			v.Orders[key][i] = 100 + key
		}
		_ = append(v.Orders[key], 200)
	}
	for key, order := range v.Orders {
		if slices.ContainsFunc(order, func(n int) bool { return n != 100+key }) {
			t.Errorf("key %d shares memory with another one: %v", key, order)
		}
	}
	if !slices.Equal(room, was) {
		t.Errorf("the ops were written into: %v", room)
	}
	checkVerdict(t, "again", api.Register, ops, 100, want)
}

// All workers have ended when Check answers, whatever it answers.
func TestWorkersEnd(t *testing.T) {
	was := runtime.NumGoroutine()
	for range 50 {
		for _, ops := range [][]api.Op{nil, pair(0, 1, 0), pair(7, 2, 0), race(3, 1, 0), keyed(9)} {
			local.Check(api.Register, ops, 3, 64)
		}
	}
	for range 5000 {
		// A goroutine counts for a moment longer than its last statement.
		if runtime.NumGoroutine() <= was {
			return
		}
		time.Sleep(time.Millisecond)
	}
	t.Errorf("%d goroutines, %d ahead", runtime.NumGoroutine(), was)
}
