package model_test

import (
	"math"
	"slices"
	"testing"

	"testimony/api"
	"testimony/model"
)

// stepCase is a call of a state, and what promise 2.2 asks of it.
type stepCase struct {
	name        string
	object      int
	state       []int
	kind, a, b  int
	next        []int
	result      int
	cannotBeRun bool
}

func checkSteps(t *testing.T, cases []stepCase) {
	t.Helper()
	for _, c := range cases {
		next, result, ok := model.Step(c.object, c.state, c.kind, c.a, c.b)
		if !slices.Equal(next, c.next) || result != c.result || ok == c.cannotBeRun {
			t.Errorf("%s: %v, %d, %v", c.name, next, result, ok)
		}
	}
}

func TestStepRegister(t *testing.T) {
	checkSteps(t, []stepCase{
		{name: "read", object: api.Register, state: []int{5}, kind: api.Read, a: 1, b: 2, next: []int{5}, result: 5},
		{name: "write", object: api.Register, state: []int{5}, kind: api.Write, a: 7, b: 2, next: []int{7}},
		{name: "swap", object: api.Register, state: []int{5}, kind: api.Swap, a: 5, b: 9, next: []int{9}, result: 1},
		{name: "swap of itself", object: api.Register, state: []int{5}, kind: api.Swap, a: 5, b: 5, next: []int{5}, result: 1},
		{name: "swap of another one", object: api.Register, state: []int{5}, kind: api.Swap, a: 6, b: 5, next: []int{5}},
		{name: "negative", object: api.Register, state: []int{-5}, kind: api.Read, next: []int{-5}, result: -5},
	})
}

func TestStepCounter(t *testing.T) {
	checkSteps(t, []stepCase{
		{name: "add", object: api.Counter, state: []int{5}, kind: api.Add, a: 3, b: 2, next: []int{8}, result: 8},
		{name: "add below 0", object: api.Counter, state: []int{5}, kind: api.Add, a: -7, next: []int{-2}, result: -2},
		{name: "get", object: api.Counter, state: []int{5}, kind: api.Get, a: 3, next: []int{5}, result: 5},
		{name: "round", object: api.Counter, state: []int{math.MaxInt}, kind: api.Add, a: 1, next: []int{math.MinInt}, result: math.MinInt},
		{name: "round the other way", object: api.Counter, state: []int{math.MinInt}, kind: api.Add, a: -1, next: []int{math.MaxInt}, result: math.MaxInt},
	})
}

func TestStepSet(t *testing.T) {
	checkSteps(t, []stepCase{
		{name: "put into nothing", object: api.Set, kind: api.Put, a: 3, next: []int{3}, result: 1},
		{name: "put ahead", object: api.Set, state: []int{2, 4}, kind: api.Put, a: -1, next: []int{-1, 2, 4}, result: 1},
		{name: "put between", object: api.Set, state: []int{2, 4}, kind: api.Put, a: 3, next: []int{2, 3, 4}, result: 1},
		{name: "put behind", object: api.Set, state: []int{2, 4}, kind: api.Put, a: 5, next: []int{2, 4, 5}, result: 1},
		{name: "put twice", object: api.Set, state: []int{2, 4}, kind: api.Put, a: 4, next: []int{2, 4}},
		{name: "drop the first", object: api.Set, state: []int{2, 4, 6}, kind: api.Drop, a: 2, next: []int{4, 6}, result: 1},
		{name: "drop one between", object: api.Set, state: []int{2, 4, 6}, kind: api.Drop, a: 4, next: []int{2, 6}, result: 1},
		{name: "drop the last", object: api.Set, state: []int{2, 4, 6}, kind: api.Drop, a: 6, next: []int{2, 4}, result: 1},
		{name: "drop the only one", object: api.Set, state: []int{2}, kind: api.Drop, a: 2, result: 1},
		{name: "drop what is not in it", object: api.Set, state: []int{2, 4}, kind: api.Drop, a: 3, next: []int{2, 4}},
		{name: "drop out of nothing", object: api.Set, kind: api.Drop, a: 3},
		{name: "has", object: api.Set, state: []int{2, 4}, kind: api.Has, a: 2, next: []int{2, 4}, result: 1},
		{name: "has not", object: api.Set, state: []int{2, 4}, kind: api.Has, a: 3, next: []int{2, 4}},
		{name: "nothing has", object: api.Set, kind: api.Has, a: 0},
	})
}

func TestStepQueue(t *testing.T) {
	checkSteps(t, []stepCase{
		{name: "push into nothing", object: api.Queue, kind: api.Push, a: 3, next: []int{3}},
		{name: "push", object: api.Queue, state: []int{5, 1}, kind: api.Push, a: 3, next: []int{5, 1, 3}},
		{name: "pop", object: api.Queue, state: []int{5, 1, 3}, kind: api.Pop, a: 9, next: []int{1, 3}, result: 5},
		{name: "pop the only one", object: api.Queue, state: []int{5}, kind: api.Pop, result: 5},
		{name: "pop of nothing", object: api.Queue, kind: api.Pop, result: -1},
	})
}

func TestStepStack(t *testing.T) {
	checkSteps(t, []stepCase{
		{name: "push onto nothing", object: api.Stack, kind: api.Push, a: 3, next: []int{3}},
		{name: "push", object: api.Stack, state: []int{5, 1}, kind: api.Push, a: 3, next: []int{5, 1, 3}},
		{name: "pop", object: api.Stack, state: []int{5, 1, 3}, kind: api.Pop, a: 9, next: []int{5, 1}, result: 3},
		{name: "pop the only one", object: api.Stack, state: []int{5}, kind: api.Pop, result: 5},
		{name: "pop of nothing", object: api.Stack, kind: api.Pop, result: -1},
	})
}

func TestStepMutex(t *testing.T) {
	checkSteps(t, []stepCase{
		{name: "lock", object: api.Mutex, state: []int{0}, kind: api.Lock, a: 5, b: 6, next: []int{1}},
		{name: "unlock", object: api.Mutex, state: []int{1}, kind: api.Unlock, a: 5, b: 6, next: []int{0}},
		{name: "lock what is locked", object: api.Mutex, state: []int{1}, kind: api.Lock, cannotBeRun: true},
		{name: "unlock what is free", object: api.Mutex, state: []int{0}, kind: api.Unlock, cannotBeRun: true},
		{name: "lock what is neither", object: api.Mutex, state: []int{2}, kind: api.Lock, cannotBeRun: true},
		{name: "unlock what is neither", object: api.Mutex, state: []int{-1}, kind: api.Unlock, cannotBeRun: true},
	})
}

// 2.2: a kind that the object doesn't know can't be done, whatever its state, and nothing stands beside the false.
func TestStepUnknown(t *testing.T) {
	objects := append([]int{1, 2, 3, 4, 5, 6, 7}, farOff...)
	kinds := append([]int{1, 2, 3, 4, 5, 6, 7, 8, 9, 10, 11, 12, 13}, farOff...)
	for _, object := range objects {
		for _, kind := range kinds {
			if slices.Contains(kindsOf(object), kind) {
				continue
			}
			for _, state := range [][]int{nil, {0}, {1}, {1, 2}} {
				checkSteps(t, []stepCase{{name: "unknown", object: object, state: state, kind: kind, a: 1, b: 1, cannotBeRun: true}})
			}
		}
	}
}

// 2.2: of a register, a counter and a mutex the state is just one number.
func TestStepNotOneNumber(t *testing.T) {
	for _, object := range []int{api.Register, api.Counter, api.Mutex} {
		for _, kind := range kindsOf(object) {
			for _, state := range [][]int{nil, {}, {0, 0}, {1, 1}, {0, 1, 2}} {
				checkSteps(t, []stepCase{{name: "not one number", object: object, state: state, kind: kind, cannotBeRun: true}})
			}
		}
	}
}

// 2.2: where a set does not rise anything may be told, but the call ends.
func TestStepSetThatDoesNotRise(t *testing.T) {
	for _, kind := range kindsOf(api.Set) {
		for a := range 6 {
			model.Step(api.Set, []int{4, 1, 3, 3, 0}, kind, a, 0)
		}
	}
}

// P4: a state that is handed in is not written into, nor what stands behind its length, and shares nothing with what comes out.
func TestStepLeavesState(t *testing.T) {
	for object := api.Register; object <= api.Mutex; object++ {
		for _, kind := range kindsOf(object) {
			for a := range 5 {
				leavesState(t, object, kind, a)
			}
		}
	}
}

func leavesState(t *testing.T, object, kind, a int) {
	t.Helper()
	whole := []int{1, 2, 3, 4}
	length := 3
	if len(model.Start(object)) == 1 {
		length = 1
	}
	next, _, _ := model.Step(object, whole[:length], kind, a, 9)
	next = next[:cap(next)]
	for i := range next {
		next[i] = 77
	}
	if !slices.Equal(whole, []int{1, 2, 3, 4}) {
		t.Errorf("object %d, kind %d of %d: %v is left", object, kind, a, whole)
	}
}
