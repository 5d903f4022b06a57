package model

import (
	"slices"

	"testimony/api"
)

// call does to a state, which it may write into, what an op asks (its Kind, A and B).
func call(object int, state []int, op api.Op) (next []int, result int, ok bool) {
	if !Knows(object, op.Kind) || isOneNumber(object) && len(state) != 1 {
		return nil, 0, false
	}
	switch object {
	case api.Register:
		result = callRegister(&state[0], op)
	case api.Counter:
		result = callCounter(&state[0], op)
	case api.Set:
		state, result = callSet(state, op)
	case api.Queue:
		state, result = callQueue(state, op)
	case api.Stack:
		state, result = callStack(state, op)
	case api.Mutex:
		if !callMutex(&state[0], op) {
			return nil, 0, false
		}
	}
	return state, result, true
}

// callRegister is what a call of a register tells.
func callRegister(number *int, op api.Op) int {
	switch op.Kind {
	case api.Write:
		*number = op.A
		return 0
	case api.Swap:
		if *number != op.A {
			return 0
		}
		*number = op.B
		return 1
	}
	return *number
}

// callCounter is what a call of a counter tells.
func callCounter(number *int, op api.Op) int {
	if op.Kind == api.Add {
		*number += op.A
	}
	return *number
}

// callSet is what a call makes of a set, and what it tells.
func callSet(state []int, op api.Op) ([]int, int) {
	place, in := slices.BinarySearch(state, op.A)
	switch {
	case op.Kind == api.Put && !in:
		return slices.Insert(state, place, op.A), 1
	case op.Kind == api.Drop && in:
		return slices.Delete(state, place, place+1), 1
	case op.Kind == api.Has && in:
		return state, 1
	}
	return state, 0
}

// callQueue is what a call makes of a queue, and what it tells.
func callQueue(state []int, op api.Op) ([]int, int) {
	if op.Kind == api.Push {
		return append(state, op.A), 0
	}
	if len(state) == 0 {
		return state, -1
	}
	return state[1:], state[0]
}

// callStack is what a call makes of a stack, and what it tells.
func callStack(state []int, op api.Op) ([]int, int) {
	if op.Kind == api.Push {
		return append(state, op.A), 0
	}
	last := len(state) - 1
	if last < 0 {
		return state, -1
	}
	return state[:last], state[last]
}

// callMutex says whether a call of a mutex could be done.
func callMutex(number *int, op api.Op) bool {
	from, to := 0, 1
	if op.Kind == api.Unlock {
		from, to = 1, 0
	}
	if *number != from {
		return false
	}
	*number = to
	return true
}
