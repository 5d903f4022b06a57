package gen_test

import (
	"math"
	"slices"
	"testing"

	"testimony/gen"
)

// 19.1: one number behind the other, 0 behind the end, and how many were used.
func TestTape(t *testing.T) {
	tape := &gen.Tape{Numbers: []int{7, 12, 3, 10}}
	for i, c := range []struct{ n, want, used int }{
		{10, 7, 1}, {10, 2, 2}, {0, 0, 2}, {-1, 0, 2}, {math.MinInt, 0, 2}, {4, 3, 3}, {1, 0, 4},
		{10, 0, 5}, {0, 0, 5}, {1, 0, 6}, {math.MaxInt, 0, 7},
	} {
		if got := tape.Below(c.n); got != c.want || tape.Used() != c.used {
			t.Errorf("asked %d times: below %d: %d, %d used, not %d, %d", i, c.n, got, tape.Used(), c.want, c.used)
		}
	}
	if !slices.Equal(tape.Numbers, []int{7, 12, 3, 10}) {
		t.Error(tape.Numbers)
	}
}

// 19.1: numbers are of 64 bits, without a sign.
func TestTapeWithoutSign(t *testing.T) {
	for _, c := range []struct{ number, n, want int }{
		{-1, 10, 5},  // 18446744073709551615
		{-1, 16, 15}, // 2^64 - 1
		{-5, 7, 4},   // 18446744073709551611
		{math.MinInt, 10, 8},
		{math.MaxInt, 10, 7},
		{math.MaxInt, math.MaxInt, 0},
		{math.MinInt, math.MaxInt, 1},
		{-1, math.MaxInt, 1},
		{-2, math.MaxInt, 0},
		{-3, math.MaxInt, math.MaxInt - 1},
		{math.MaxInt - 1, math.MaxInt, math.MaxInt - 1},
		{-1, 1, 0},
	} {
		tape := &gen.Tape{Numbers: []int{c.number}}
		if got := tape.Below(c.n); got != c.want || tape.Used() != 1 {
			t.Errorf("%d below %d: %d, not %d", c.number, c.n, got, c.want)
		}
	}
}

// 19.1, P1: one without numbers, and none at all.
func TestEmptyTape(t *testing.T) {
	var tape gen.Tape
	if tape.Used() != 0 || tape.Below(5) != 0 || tape.Below(0) != 0 || tape.Used() != 1 {
		t.Error(tape)
	}
	var none *gen.Tape
	if none.Below(5) != 0 || none.Used() != 0 {
		t.Error("none has something")
	}
}
