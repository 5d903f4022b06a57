package local_test

import (
	"math"
	"slices"
	"testing"

	"testimony/api"
	"testimony/local"
)

// done is an op that came to its end.
func done(proc, key, kind, a, result, call, end int) api.Op {
	return api.Op{Proc: proc, Key: key, Kind: kind, A: a, Result: result, Call: call, Return: end}
}

// open is an op whose end is not known.
func open(proc, key, kind, a, call int) api.Op {
	return api.Op{Proc: proc, Key: key, Kind: kind, A: a, Call: call, Return: -1}
}

// keyed are ops of these keys, which A tells apart.
func keyed(keys ...int) []api.Op {
	var ops []api.Op
	for n, key := range keys {
		ops = append(ops, api.Op{Key: key, A: n})
	}
	return ops
}

// checkSplit asks whether each key has just the ops with the numbers of want, and none where want has no such key.
func checkSplit(t *testing.T, ops []api.Op, want map[int][]int) {
	t.Helper()
	parts, numbers := local.Split(ops)
	if len(parts) != api.MaxKeys || len(numbers) != api.MaxKeys {
		t.Fatalf("%d parts, %d lists of numbers", len(parts), len(numbers))
	}
	for key := range api.MaxKeys {
		var part []api.Op
		for _, n := range want[key] {
			part = append(part, ops[n])
		}
		if !slices.Equal(numbers[key], want[key]) || !slices.Equal(parts[key], part) {
			t.Errorf("key %d: %v, %v, not %v", key, numbers[key], parts[key], want[key])
		}
	}
}

// 4.1: of each key its ops and their numbers, in order.
func TestSplit(t *testing.T) {
	checkSplit(t, nil, nil)
	checkSplit(t, []api.Op{}, nil)
	checkSplit(t, keyed(0), map[int][]int{0: {0}})
	checkSplit(t, keyed(7), map[int][]int{7: {0}})
	checkSplit(t, keyed(3, 3, 3), map[int][]int{3: {0, 1, 2}})
	checkSplit(t, keyed(7, 0, 2, 0, 7, 7, 1), map[int][]int{0: {1, 3}, 1: {6}, 2: {2}, 7: {0, 4, 5}})
	checkSplit(t, keyed(7, 6, 5, 4, 3, 2, 1, 0), map[int][]int{0: {7}, 1: {6}, 2: {5}, 3: {4}, 4: {3}, 5: {2}, 6: {1}, 7: {0}})
}

// 4.1: ops of other keys are left out; the others' numbers are still those in all ops.
func TestSplitOtherKeys(t *testing.T) {
	for _, key := range []int{math.MinInt, -8, -1, api.MaxKeys, api.MaxKeys + 1, 256, math.MaxInt} {
		checkSplit(t, keyed(key), nil)
		checkSplit(t, keyed(key, 0, key, 7, key, 0), map[int][]int{0: {1, 5}, 7: {3}})
	}
}

// 4.1: nothing but the key counts: not whether ops may be, nor how many they are, nor the order of their calls.
func TestSplitAnyOps(t *testing.T) {
	strange := api.Op{Proc: -1, Key: 4, Kind: 99, A: math.MinInt, B: math.MaxInt, Result: 5, Call: -7, Return: -9}
	checkSplit(t, []api.Op{strange, strange}, map[int][]int{4: {0, 1}})
	late, early := done(0, 4, api.Read, 0, 0, 8, 9), done(0, 4, api.Read, 0, 0, 0, 1)
	checkSplit(t, []api.Op{late, early}, map[int][]int{4: {0, 1}})
	want := map[int][]int{}
	many := make([]api.Op, 100_000)
	for n := range many {
		many[n] = api.Op{Key: n % 11, A: n}
		want[n%11] = append(want[n%11], n)
	}
	checkSplit(t, many, want)
}

// P4: what comes out is fresh memory, of which no two lists share any, and what goes in stays as it is.
func TestSplitMemory(t *testing.T) {
	room := keyed(0, 1, 0, 1, 2, 5, 5)
	was := slices.Clone(room)
	parts, numbers := local.Split(room[:5])
	for key := range api.MaxKeys {
		for i := range parts[key] {
			parts[key][i].Proc, numbers[key][i] = 100+key, 100+key
		}
		_ = append(parts[key], api.Op{Proc: 200})
		_ = append(numbers[key], 200)
	}
	for key := range api.MaxKeys {
		for i := range parts[key] {
			if parts[key][i].Proc != 100+key || numbers[key][i] != 100+key {
				t.Errorf("key %d shares memory with another one: %v, %v", key, parts[key], numbers[key])
			}
		}
	}
	if !slices.Equal(room, was) {
		t.Errorf("the ops were written into: %v", room)
	}
	checkSplit(t, room[:5], map[int][]int{0: {0, 2}, 1: {1, 3}, 2: {4}})
}
