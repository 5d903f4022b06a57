package clock_test

import (
	"math"
	"testing"

	"testimony/api"
	"testimony/clock"
)

// cutCase is a cut of some steps, and the greatest steady one below it.
type cutCase struct {
	name     string
	c, below clock.Cut
}

// checkCuts asks for Steady and Below; a cut is steady just if it is the greatest one below itself.
func checkCuts(t *testing.T, l []clock.Step, cases ...cutCase) {
	t.Helper()
	for _, c := range cases {
		if ok, err := clock.Steady(l, c.c); ok != (c.c == c.below) || err != nil {
			t.Errorf("%s: Steady tells %v, %v of %v", c.name, ok, err, c.c)
		}
		if below, err := clock.Below(l, c.c); below != c.below || err != nil {
			t.Errorf("%s: Below tells %v, %v of %v, not %v", c.name, below, err, c.c, c.below)
		}
	}
}

// 9.4: what is received is sent.
func TestCutReceives(t *testing.T) {
	checkCuts(t, nil, cutCase{"no steps", clock.Cut{}, clock.Cut{}})
	checkCuts(t, []clock.Step{own(7)},
		cutCase{"none", clock.Cut{}, clock.Cut{}},
		cutCase{"one", clock.Cut{7: 1}, clock.Cut{7: 1}})
	checkCuts(t, []clock.Step{own(0), send(0, 1), own(0), own(1), receive(1, 1), own(1)},
		cutCase{"none", clock.Cut{}, clock.Cut{}},
		cutCase{"all", clock.Cut{3, 3}, clock.Cut{3, 3}},
		cutCase{"the sending alone", clock.Cut{2, 0}, clock.Cut{2, 0}},
		cutCase{"on its way", clock.Cut{3, 1}, clock.Cut{3, 1}},
		cutCase{"just both", clock.Cut{2, 2}, clock.Cut{2, 2}},
		cutCase{"the receiving alone", clock.Cut{1, 2}, clock.Cut{1, 1}},
		cutCase{"the receiving, and what is behind it", clock.Cut{1, 3}, clock.Cut{1, 1}},
		cutCase{"none of the sender", clock.Cut{0, 3}, clock.Cut{0, 1}})
	checkCuts(t, []clock.Step{send(3, 0), receive(3, 0)},
		cutCase{"to oneself, on its way", clock.Cut{3: 1}, clock.Cut{3: 1}},
		cutCase{"to oneself", clock.Cut{3: 2}, clock.Cut{3: 2}})
}

// 9.4: over others between; what is taken out of one process may take out of another one that was asked ahead.
func TestCutBetween(t *testing.T) {
	down := []clock.Step{send(0, 1), receive(1, 1), send(1, 2), receive(2, 2)}
	checkCuts(t, down,
		cutCase{"the first is missing", clock.Cut{0, 2, 1}, clock.Cut{}},
		cutCase{"the second is missing", clock.Cut{1, 0, 1}, clock.Cut{1}},
		cutCase{"the second sending is missing", clock.Cut{1, 1, 1}, clock.Cut{1, 1}},
		cutCase{"all", clock.Cut{1, 2, 1}, clock.Cut{1, 2, 1}})
	up := []clock.Step{send(2, 1), receive(1, 1), send(1, 2), receive(0, 2), own(0)}
	checkCuts(t, up,
		cutCase{"the first is missing", clock.Cut{2, 2, 0}, clock.Cut{}},
		cutCase{"the second is missing", clock.Cut{2, 0, 1}, clock.Cut{2: 1}},
		cutCase{"all", clock.Cut{2, 2, 1}, clock.Cut{2, 2, 1}})
	across := []clock.Step{send(0, 1), send(1, 2), receive(0, 2), receive(1, 1), send(0, 3), send(1, 4), receive(0, 4), receive(1, 3)}
	checkCuts(t, across,
		cutCase{"both receive, the one has not sent", clock.Cut{0, 4}, clock.Cut{0, 1}},
		cutCase{"each ahead of its second sending", clock.Cut{2, 2}, clock.Cut{2, 2}},
		cutCase{"the one receives twice", clock.Cut{4, 2}, clock.Cut{3, 2}},
		cutCase{"the other one receives twice", clock.Cut{1, 4}, clock.Cut{1, 3}})
}

// 9.4: ErrRange: more steps than there are, or below 0.
func TestCutRange(t *testing.T) {
	l := []clock.Step{own(0), own(0), send(3, 1), receive(0, 1)}
	cuts := []clock.Cut{
		{4}, {-1}, {0, 1}, {3: 2}, {3: -1}, {7: 1}, {7: -1}, {3, 0, 0, 1, 1}, {3, -1, 0, 1},
		{math.MaxInt}, {math.MinInt}, {7: math.MaxInt}, {7: math.MinInt}, {3, 7: 1}, {3, 7: -1},
	}
	for _, c := range cuts {
		if ok, err := clock.Steady(l, c); ok || err != error(api.ErrRange) {
			t.Errorf("%v: Steady tells %v, %v", c, ok, err)
		}
		if below, err := clock.Below(l, c); below != (clock.Cut{}) || err != error(api.ErrRange) {
			t.Errorf("%v: Below tells %v, %v", c, below, err)
		}
	}
	checkCuts(t, l, cutCase{"just as many", clock.Cut{3, 3: 1}, clock.Cut{3, 3: 1}})
}

func checkCount(t *testing.T, name string, want int, l ...clock.Step) {
	t.Helper()
	if n, err := clock.Cuts(l); n != want || err != nil {
		t.Errorf("%s: %d, %v, not %d", name, n, err, want)
	}
}

// 9.4: how many cuts are steady.
func TestCuts(t *testing.T) {
	checkCount(t, "nothing", 1)
	checkCount(t, "one", 2, own(7))
	checkCount(t, "two of a process", 3, own(3), own(3))
	checkCount(t, "two of two", 4, own(3), own(4))
	checkCount(t, "received", 3, send(0, 1), receive(1, 1))
	checkCount(t, "to oneself", 3, send(0, 1), receive(0, 1))
	checkCount(t, "around", 12, own(0), send(0, 1), own(0), own(1), receive(1, 1), own(1)) // 16, but for {0, 2}, {0, 3}, {1, 2} and {1, 3}
	checkCount(t, "from hand to hand", 5, send(0, 1), receive(1, 1), send(1, 2), receive(2, 2))
	checkCount(t, "across", 7, send(0, 1), send(1, 2), receive(0, 2), receive(1, 1)) // 9, but for {2, 0} and {0, 2}
	checkCount(t, "one behind the other", 41, chain(2)...)
}

// steps is, of each process, that many of its own.
func steps(many ...int) []clock.Step {
	var l []clock.Step
	for p, n := range many {
		for range n {
			l = append(l, own(p))
		}
	}
	return l
}

// 9.4: ErrLimit: more than 10,000 cuts, steady or not.
func TestCutsLimit(t *testing.T) {
	checkCount(t, "just as many", 10_000, steps(9, 9, 9, 9)...)
	checkCount(t, "as many, of another form", 10_000, steps(3, 3, 0, 4, 4, 4, 4)...) // 16 * 625
	checkCount(t, "one process", 41, steps(40)...)
	checkCount(t, "two", 441, steps(20, 20)...)
	for _, l := range [][]clock.Step{
		steps(9, 9, 9, 9, 0, 0, 0, 1),
		steps(10, 9, 9, 9),
		steps(6, 9, 10, 12), // 7 * 10 * 11 * 13 = 10,010
		steps(5, 5, 5, 5, 5, 5, 5, 5),
		chain(8), // though 41 of them are steady
	} {
		if n, err := clock.Cuts(l); n != 0 || err != error(api.ErrLimit) {
			t.Errorf("%v: %d, %v", l, n, err)
		}
	}
}
