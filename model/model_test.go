package model_test

import (
	"math"
	"slices"
	"testing"

	"testimony/api"
	"testimony/model"
)

// farOff has numbers that are no object's, no kind's and no op's.
var farOff = []int{math.MinInt, -64, -1, 0, 64, math.MaxInt}

// kindsOf is what promise 2.1 tells of an object.
func kindsOf(object int) []int {
	switch object {
	case api.Register:
		return []int{api.Read, api.Write, api.Swap}
	case api.Counter:
		return []int{api.Add, api.Get}
	case api.Set:
		return []int{api.Put, api.Drop, api.Has}
	case api.Queue, api.Stack:
		return []int{api.Push, api.Pop}
	case api.Mutex:
		return []int{api.Lock, api.Unlock}
	}
	return nil
}

// 2.1: each object has its kinds, and none beside them.
func TestKnows(t *testing.T) {
	for object := -2; object < 20; object++ {
		for kind := -2; kind < 20; kind++ {
			want := slices.Contains(kindsOf(object), kind)
			if got := model.Knows(object, kind); got != want {
				t.Errorf("Knows(%d, %d) = %v", object, kind, got)
			}
		}
	}
}

// 2.1: numbers far off are neither objects nor kinds.
func TestKnowsFarOff(t *testing.T) {
	for _, n := range farOff {
		if model.Knows(n, api.Read) || model.Knows(api.Register, n) || model.Knows(n, n) {
			t.Errorf("%d is known", n)
		}
	}
}

// 2.1: a state at first is 0, or has nothing in it.
func TestStart(t *testing.T) {
	want := map[int][]int{api.Register: {0}, api.Counter: {0}, api.Mutex: {0}}
	for object := -2; object < 20; object++ {
		if got := model.Start(object); !slices.Equal(got, want[object]) {
			t.Errorf("Start(%d) = %v", object, got)
		}
	}
	for _, n := range farOff {
		if got := model.Start(n); len(got) != 0 {
			t.Errorf("Start(%d) = %v", n, got)
		}
	}
}

// 2.1, P4: a state at first is the caller's: what is written into it is not told to the next one.
func TestStartIsFresh(t *testing.T) {
	model.Start(api.Register)[0] = 7
	if got := model.Start(api.Register)[0]; got != 0 {
		t.Errorf("a register starts with %d", got)
	}
}
