package clock_test

import (
	"math"
	"slices"
	"strings"
	"testing"

	"testimony/api"
	"testimony/clock"
)

func checkTimes(t *testing.T, name string, want []int, l ...clock.Step) {
	t.Helper()
	if times, err := clock.Times(l); !slices.Equal(times, want) || err != nil {
		t.Errorf("%s: %v, %v, not %v", name, times, err, want)
	}
}

// 9.2: one more than the step ahead of it of its process, whatever the others do.
func TestTimesOfProcess(t *testing.T) {
	checkTimes(t, "nothing", nil)
	checkTimes(t, "one", []int{1}, own(5))
	checkTimes(t, "three", []int{1, 2, 3}, own(0), send(0, 1), own(0))
	checkTimes(t, "two processes", []int{1, 1, 2, 2, 3}, own(0), own(1), own(0), own(1), own(1))
	checkTimes(t, "sent, not received", []int{1, 2, 1}, send(0, 1), send(0, 2), own(1))
}

// 9.2: at least one more than that of the sending.
func TestTimesOfSending(t *testing.T) {
	checkTimes(t, "the first step receives", []int{1, 2}, send(0, 1), receive(1, 1))
	checkTimes(t, "the sender is further", []int{1, 2, 3, 1, 4, 5}, own(0), own(0), send(0, 1), own(1), receive(1, 1), own(1))
	checkTimes(t, "the receiver is further", []int{1, 1, 2, 3, 4}, send(0, 1), own(1), own(1), own(1), receive(1, 1))
	checkTimes(t, "they are as far", []int{1, 2, 1, 2, 3}, own(0), send(0, 1), own(1), own(1), receive(1, 1))
	checkTimes(t, "what the sender does later has no part in it", []int{1, 2, 3, 2}, send(0, 1), own(0), own(0), receive(1, 1))
	checkTimes(t, "to oneself", []int{1, 2, 3}, send(0, 1), own(0), receive(0, 1))
	checkTimes(t, "to oneself at once", []int{1, 2}, send(0, 1), receive(0, 1))
	checkTimes(t, "there and back", []int{1, 2, 3, 1, 4}, send(0, 0), receive(1, 0), send(1, 1), own(2), receive(0, 1))
	checkTimes(t, "an old one", []int{1, 2, 3, 4}, send(0, 1), send(0, 2), receive(1, 2), receive(1, 1))
}

// drawn is a table as text: a row's steps that it is ahead of are 1.
func drawn(rows [][]bool) string {
	var l []string
	for _, row := range rows {
		s := ""
		for _, ahead := range row {
			if ahead {
				s += "1"
			} else {
				s += "."
			}
		}
		l = append(l, s)
	}
	return strings.Join(l, " ")
}

func checkAhead(t *testing.T, name string, want string, l ...clock.Step) {
	t.Helper()
	if rows, err := clock.Ahead(l); drawn(rows) != want || err != nil {
		t.Errorf("%s: %q, %v, not %q", name, drawn(rows), err, want)
	}
}

// 9.2: of its process, and ahead in the list; none is ahead of itself.
func TestAheadOfProcess(t *testing.T) {
	checkAhead(t, "nothing", "")
	checkAhead(t, "one", ".", own(0))
	checkAhead(t, "two", ".1 ..", own(0), send(0, 1))
	checkAhead(t, "three", ".11 ..1 ...", own(0), own(0), own(0))
	checkAhead(t, "two processes", ".. ..", own(0), own(1))
	checkAhead(t, "two processes, mixed", "..1. ...1 .... ....", own(0), own(1), own(0), own(1))
	checkAhead(t, "sent, not received", ".. ..", send(0, 1), own(1))
}

// 9.2: it sent what the second receives.
func TestAheadBySending(t *testing.T) {
	checkAhead(t, "received", ".1 ..", send(0, 1), receive(1, 1))
	checkAhead(t, "to oneself", ".1 ..", send(0, 1), receive(0, 1))
	checkAhead(t, "message 0", "..1 ... ...", send(0, 0), own(2), receive(1, 0))
	checkAhead(t, "each its own", "..1.. ....1 ..... ..... .....", send(0, 1), send(1, 2), receive(2, 1), own(3), receive(4, 2))
	checkAhead(t, "what the receiver did is not ahead of the sending", "..1 ..1 ...", own(1), send(0, 1), receive(1, 1))
	checkAhead(t, "what the sender did later is not ahead", ".11 ... ...", send(0, 1), own(0), receive(1, 1))
}

// 9.2: over others between.
func TestAheadBetween(t *testing.T) {
	checkAhead(t, "ahead of the sending, behind the receiving", ".111 ..11 ...1 ....", own(0), send(0, 1), receive(1, 1), own(1))
	checkAhead(t, "from hand to hand", ".1111 ..111 ...11 ....1 .....", send(0, 1), receive(1, 1), send(1, 2), receive(2, 2), own(2))
	checkAhead(t, "there and back", ".1111 ...11 ....1 ....1 .....", send(0, 1), receive(1, 1), own(0), send(1, 2), receive(0, 2))
	checkAhead(t, "two ways that meet", ".1111 ..111 ....1 ....1 .....", own(0), send(0, 1), send(0, 2), receive(1, 1), receive(1, 2))
}

// chain is as many steps as may be, each straight behind the one ahead of it, over that many processes.
func chain(procs int) []clock.Step {
	var l []clock.Step
	for n := range 20 {
		l = append(l, send(n%procs, n), receive((n+1)%procs, n))
	}
	return l
}

// 9.2: as many steps as may be.
func TestAheadLong(t *testing.T) {
	l := chain(api.MaxProcs)
	rows, err := clock.Ahead(l)
	times, fault := clock.Times(l)
	if err != nil || fault != nil || len(rows) != len(l) || len(times) != len(l) {
		t.Fatalf("%d rows, %v, %d times, %v", len(rows), err, len(times), fault)
	}
	for a, row := range rows {
		if times[a] != a+1 || len(row) != len(l) {
			t.Fatalf("%d: at %d, %d long", a, times[a], len(row))
		}
		for b, ahead := range row {
			if ahead != (a < b) {
				t.Fatalf("%d and %d: %v", a, b, ahead)
			}
		}
	}
}

func checkVectors(t *testing.T, name string, want []clock.Vector, l ...clock.Step) {
	t.Helper()
	if vectors, err := clock.Vectors(l); !slices.Equal(vectors, want) || err != nil {
		t.Errorf("%s: %v, %v, not %v", name, vectors, err, want)
	}
}

// 9.3: how many steps of each process are ahead of it, or it.
func TestVectors(t *testing.T) {
	checkVectors(t, "nothing", nil)
	checkVectors(t, "one", []clock.Vector{{5: 1}}, own(5))
	checkVectors(t, "the last process", []clock.Vector{{7: 1}, {7: 2}}, own(7), send(7, 0))
	checkVectors(t, "two processes", []clock.Vector{{1}, {0, 1}, {2}, {0, 2}}, own(0), own(1), own(0), own(1))
	checkVectors(t, "received", []clock.Vector{{1}, {1, 1}, {1, 2}}, send(0, 1), receive(1, 1), own(1))
	checkVectors(t, "the receiver is further", []clock.Vector{{0, 1}, {0, 2}, {1}, {1, 3}}, own(1), own(1), send(0, 1), receive(1, 1))
	checkVectors(t, "what the sender did later is not ahead", []clock.Vector{{1}, {2}, {1, 1}}, send(0, 1), own(0), receive(1, 1))
	checkVectors(t, "to oneself", []clock.Vector{{1}, {2}, {3}}, send(0, 1), own(0), receive(0, 1))
	checkVectors(t, "there and back", []clock.Vector{{1}, {2}, {1, 1}, {1, 2}, {3, 2}}, send(0, 1), own(0), receive(1, 1), send(1, 2), receive(0, 2))
	checkVectors(t, "two that meet", []clock.Vector{{1}, {0, 1}, {1, 0, 1}, {1, 1, 2}}, send(0, 1), send(1, 2), receive(2, 1), receive(2, 2))
	checkVectors(t, "an old one tells nothing new", []clock.Vector{{1}, {2}, {2, 1}, {2, 2}}, send(0, 1), send(0, 2), receive(1, 2), receive(1, 1))
}

// 9.3: the greater ones, process by process.
func TestJoin(t *testing.T) {
	cases := []struct{ v, w, want clock.Vector }{
		{clock.Vector{}, clock.Vector{}, clock.Vector{}},
		{clock.Vector{1}, clock.Vector{}, clock.Vector{1}},
		{clock.Vector{1, 5}, clock.Vector{3, 2}, clock.Vector{3, 5}},
		{clock.Vector{1, 2, 3, 4, 5, 6, 7, 8}, clock.Vector{8, 7, 6, 5, 4, 3, 2, 1}, clock.Vector{8, 7, 6, 5, 5, 6, 7, 8}},
		{clock.Vector{-1, -5}, clock.Vector{-3, -2}, clock.Vector{-1, -2}},
		{clock.Vector{-1}, clock.Vector{}, clock.Vector{}},
		{clock.Vector{math.MinInt, 7: math.MaxInt}, clock.Vector{math.MaxInt, 7: math.MinInt}, clock.Vector{math.MaxInt, 7: math.MaxInt}},
	}
	for _, c := range cases {
		if got, back := c.v.Join(c.w), c.w.Join(c.v); got != c.want || back != c.want {
			t.Errorf("%v and %v: %v, %v", c.v, c.w, got, back)
		}
	}
}

// 9.3: Within: none is greater. Less: that, and not the same.
func TestWithinLess(t *testing.T) {
	cases := []struct {
		v, w         clock.Vector
		within, less bool
	}{
		{clock.Vector{}, clock.Vector{}, true, false},
		{clock.Vector{1, 2, 3}, clock.Vector{1, 2, 3}, true, false},
		{clock.Vector{1, 2, 3}, clock.Vector{1, 2, 4}, true, true},
		{clock.Vector{1, 2, 4}, clock.Vector{1, 2, 3}, false, false},
		{clock.Vector{}, clock.Vector{7: 1}, true, true},
		{clock.Vector{7: 1}, clock.Vector{}, false, false},
		{clock.Vector{1, 0}, clock.Vector{0, 1}, false, false},
		{clock.Vector{0, 1}, clock.Vector{9, 0}, false, false},
		{clock.Vector{9, 0}, clock.Vector{0, 1}, false, false},
		{clock.Vector{-1}, clock.Vector{}, true, true},
		{clock.Vector{}, clock.Vector{-1}, false, false},
		{clock.Vector{math.MinInt}, clock.Vector{math.MaxInt}, true, true},
		{clock.Vector{math.MaxInt}, clock.Vector{math.MinInt}, false, false},
	}
	for _, c := range cases {
		if within, less := c.v.Within(c.w), c.v.Less(c.w); within != c.within || less != c.less {
			t.Errorf("%v and %v: %v, %v", c.v, c.w, within, less)
		}
	}
}

// P4: nothing that is handed in is written into or kept, nor what stands behind its length; what is answered hangs on that alone.
func TestArgumentStays(t *testing.T) {
	room := append(chain(api.MaxProcs), send(7, 7), own(-1))
	l := room[:30]
	was := slices.Clone(room)
	for range 2 {
		clock.Check(l)
		clock.Times(l)
		clock.Vectors(l)
		clock.Ahead(l)
		clock.Cuts(l)
		clock.Steady(l, clock.Cut{1, 1})
		clock.Below(l, clock.Cut{1, 1})
	}
	if !slices.Equal(room, was) {
		t.Errorf("%v was %v", room, was)
	}
}

// P4: what comes out is fresh: writing into it changes no answer, and no other list of it.
func TestAnswerIsFresh(t *testing.T) {
	l := chain(api.MaxProcs)
	for range 2 {
		times, _ := clock.Times(l)
		vectors, _ := clock.Vectors(l)
		if times[39] != 40 || vectors[39] != (clock.Vector{5, 6, 6, 6, 5, 4, 4, 4}) {
			t.Fatalf("%v, %v", times, vectors)
		}
		clear(times)
		clear(vectors)
		rows, _ := clock.Ahead(l)
		for a, row := range rows {
			if drawn(rows[a:a+1]) != strings.Repeat(".", a+1)+strings.Repeat("1", 39-a) {
				t.Fatalf("row %d: %v", a, row)
			}
			row = row[:cap(row)]
			for b := range row {
				row[b] = !row[b]
			}
		}
	}
}
