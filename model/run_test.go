package model_test

import (
	"math"
	"slices"
	"testing"

	"testimony/api"
	"testimony/model"
)

// done is an op whose end is known.
func done(kind, a, result int) api.Op {
	return api.Op{Kind: kind, A: a, Result: result, Return: 1}
}

// open is an op whose end is not known.
func open(kind, a, result int) api.Op {
	return api.Op{Kind: kind, A: a, Result: result, Return: -1}
}

// at is an op of another key.
func at(key int, op api.Op) api.Op {
	op.Key = key
	return op
}

type runCase struct {
	name   string
	object int
	ops    []api.Op
	order  []int
	want   int
}

func checkRuns(t *testing.T, cases []runCase) {
	t.Helper()
	for _, c := range cases {
		if got := model.Run(c.object, c.ops, c.order); got != c.want {
			t.Errorf("%s: %d, not %d", c.name, got, c.want)
		}
	}
}

func TestRun(t *testing.T) {
	ops := []api.Op{done(api.Read, 0, 1), done(api.Write, 1, 0), done(api.Read, 0, 0)}
	checkRuns(t, []runCase{
		{"as the order tells", api.Register, ops, []int{2, 1, 0}, -1},
		{"the first is told something else", api.Register, ops, []int{0, 1, 2}, 0},
		{"one between is", api.Register, ops, []int{2, 0, 1}, 1},
		{"the last is", api.Register, ops, []int{1, 0, 2}, 2},
		{"some alone", api.Register, ops, []int{1, 0}, -1},
		{"one twice", api.Register, ops, []int{2, 2, 1, 0, 0}, -1},
		{"none", api.Register, ops, nil, -1},
		{"no ops, none", api.Register, nil, nil, -1},
		{"no object, none", 0, ops, nil, -1},
	})
}

// 2.3: a number that is no op's.
func TestRunNoOpsNumber(t *testing.T) {
	ops := []api.Op{done(api.Write, 1, 0), done(api.Read, 0, 1)}
	for _, n := range []int{math.MinInt, -1, 2, 3, math.MaxInt} {
		checkRuns(t, []runCase{
			{"behind", api.Register, ops, []int{0, 1, n}, 2},
			{"between", api.Register, ops, []int{0, n, 1}, 1},
			{"ahead", api.Register, ops, []int{n, n}, 0},
		})
	}
	checkRuns(t, []runCase{{"no ops", api.Register, nil, []int{0}, 0}})
}

// 2.3: a Step that is false is told even if the op's end isn't known.
func TestRunStepIsFalse(t *testing.T) {
	lock, unlock := done(api.Lock, 0, 0), done(api.Unlock, 0, 0)
	checkRuns(t, []runCase{
		{"a mutex", api.Mutex, []api.Op{lock, unlock}, []int{0, 1, 0, 1}, -1},
		{"locked twice", api.Mutex, []api.Op{lock, unlock}, []int{0, 1, 0, 0}, 3},
		{"unlocked twice", api.Mutex, []api.Op{lock, unlock}, []int{0, 1, 1}, 2},
		{"locked twice, its end not known", api.Mutex, []api.Op{lock, open(api.Lock, 0, 0)}, []int{0, 1}, 1},
		{"a kind that it doesn't know", api.Mutex, []api.Op{lock, done(api.Read, 0, 0)}, []int{0, 1}, 1},
		{"a kind that it doesn't know, its end not known", api.Mutex, []api.Op{open(api.Read, 0, 0)}, []int{0}, 0},
		{"no object", 0, []api.Op{done(api.Read, 0, 0)}, []int{0}, 0},
		{"no object beyond", math.MaxInt, []api.Op{done(api.Read, 0, 0)}, []int{0}, 0},
	})
}

// 2.3: what was told counts if the Return is from 0 on; what was done counts in either case.
func TestRunEndIsNotKnown(t *testing.T) {
	at0 := api.Op{Kind: api.Read, Result: 5, Return: 0}
	farBack := api.Op{Kind: api.Read, Result: 5, Return: math.MinInt}
	checkRuns(t, []runCase{
		{"told anything", api.Register, []api.Op{open(api.Read, 0, 5)}, []int{0}, -1},
		{"told anything, far back", api.Register, []api.Op{farBack}, []int{0}, -1},
		{"from 0 on", api.Register, []api.Op{at0}, []int{0}, 0},
		{"it is done", api.Register, []api.Op{open(api.Write, 3, 8), done(api.Read, 0, 3)}, []int{0, 1}, -1},
		{"it is done, and seen", api.Register, []api.Op{open(api.Write, 3, 8), done(api.Read, 0, 0)}, []int{0, 1}, 1},
	})
}

// 2.3: each key has an object of its own, which starts as Start tells.
func TestRunKeys(t *testing.T) {
	far := math.MinInt
	ops := []api.Op{
		at(0, done(api.Push, 5, 0)),
		at(far, done(api.Push, 6, 0)),
		at(0, done(api.Pop, 0, 5)),
		at(far, done(api.Pop, 0, 6)),
		at(7, done(api.Pop, 0, -1)),
		at(0, done(api.Pop, 0, -1)),
		at(far, done(api.Pop, 0, -1)),
	}
	checkRuns(t, []runCase{
		{"apart", api.Queue, ops, []int{0, 1, 2, 3, 4, 5, 6}, -1},
		{"one behind the other", api.Queue, ops, []int{4, 1, 3, 6, 0, 2, 5}, -1},
		{"in another one", api.Queue, []api.Op{at(1, done(api.Push, 5, 0)), at(2, done(api.Pop, 0, 5))}, []int{0, 1}, 1},
	})
}

// B of a swap is handed on.
func TestRunSwap(t *testing.T) {
	swap := api.Op{Kind: api.Swap, A: 0, B: 4, Result: 1, Return: 1}
	checkRuns(t, []runCase{{"swap", api.Register, []api.Op{swap, done(api.Read, 0, 4)}, []int{0, 1}, -1}})
}

// 2.3: a run tells just what Steps, one behind the other, tell: each object, calls that look drawn.
func TestRunIsSteps(t *testing.T) {
	seed := uint64(1)
	draw := func(most int) int {
		seed = seed*6364136223846793005 + 1442695040888963407
		return int(seed >> 33 % uint64(most))
	}
	for range 3000 {
		object := api.Register + draw(api.Mutex)
		kinds := kindsOf(object)
		state := model.Start(object)
		var ops []api.Op
		var order []int
		for range draw(30) {
			op := api.Op{Kind: kinds[draw(len(kinds))], A: draw(4), B: draw(4)}
			next, result, ok := model.Step(object, state, op.Kind, op.A, op.B)
			if !ok {
				continue
			}
			op.Result, state = result, next
			order = append(order, len(ops))
			ops = append(ops, op)
		}
		if got := model.Run(object, ops, order); got != -1 {
			t.Fatalf("object %d, %v: %d", object, ops, got)
		}
		if len(ops) > 0 {
			wrong := draw(len(ops))
			ops[wrong].Result += 10
			if got := model.Run(object, ops, order); got != wrong {
				t.Fatalf("object %d, %v: %d, not %d", object, ops, got, wrong)
			}
		}
	}
}

// P1: a long run ends soon.
func TestRunLong(t *testing.T) {
	for _, object := range []int{api.Queue, api.Stack} {
		ops := []api.Op{done(api.Push, 5, 0), done(api.Pop, 0, 5)}
		order := slices.Concat(make([]int, 300_000), slices.Repeat([]int{1}, 300_000))
		if got := model.Run(object, ops, order); got != -1 {
			t.Errorf("object %d: %d", object, got)
		}
	}
}

// P4: ops and order are not written into.
func TestRunLeavesLists(t *testing.T) {
	ops := []api.Op{done(api.Put, 1, 1), done(api.Put, 0, 1), done(api.Drop, 1, 1)}
	order := []int{0, 1, 2}
	ops2, order2 := slices.Clone(ops), slices.Clone(order)
	model.Run(api.Set, ops, order)
	if !slices.Equal(ops, ops2) || !slices.Equal(order, order2) {
		t.Errorf("%v, %v are left", ops, order)
	}
}
