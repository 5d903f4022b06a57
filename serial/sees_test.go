package serial_test

import (
	"slices"
	"testing"

	"testimony/api"
	"testimony/serial"
)

func checkSees(t *testing.T, text string, want ...int) {
	t.Helper()
	if order, err := serial.Sees(steps(text)); !slices.Equal(order, want) || err != nil {
		t.Errorf("%s: %v, %v, not %v", text, order, err, want)
	}
}

func checkUnseen(t *testing.T, text string, want api.Errno) {
	t.Helper()
	if order, err := serial.Sees(steps(text)); order != nil || err != error(want) {
		t.Errorf("%s: %v, %v, not %v", text, order, err, want)
	}
}

// 11.3: the first order of those that commit, where nothing is seen of it.
func TestSeesFirst(t *testing.T) {
	checkSees(t, "")
	checkSees(t, "w0x0 r1x0 a0")
	checkSees(t, "c5", 5)
	checkSees(t, "c7 c3 c5", 3, 5, 7)
	checkSees(t, "r2x0 r1x0 r0x0 c0 c1 c2", 0, 1, 2)
	checkSees(t, "w2x2 w1x1 w0x0 c0 c1 c2", 0, 1, 2)
	checkSees(t, "r7x0 w7x1 c7 c1", 1, 7)
}

// 11.3: each Read reads from the same Write, or from none.
func TestSeesReads(t *testing.T) {
	checkSees(t, "w0x0 r1x0 c0 c1", 0, 1)
	checkSees(t, "w1x0 r0x0 c0 c1", 1, 0)
	checkSees(t, "r0x0 w1x0 c0 c1", 0, 1)
	checkSees(t, "r1x0 w0x0 c0 c1", 1, 0)
	checkSees(t, "w2x0 r1x0 c0 c1 c2", 0, 2, 1)
	checkSees(t, "r2x0 w1x0 r0x0 c0 c1 c2", 2, 1, 0)
	checkSees(t, "w1x0 r1x0 r0x0 c0 c1", 1, 0)
	checkUnseen(t, "r0x0 w1x0 r0x0 c0 c1", api.ErrNone)
	checkUnseen(t, "r0x0 w1x0 c1 w0x0 c0", api.ErrNone)
	checkUnseen(t, "r0x0 r1x0 w0x0 w1x0 c0 c1", api.ErrNone)
	checkUnseen(t, "r0x0 r1x1 w0x1 w1x0 c0 c1", api.ErrNone)
	checkUnseen(t, "w0x0 r1x0 w1x1 r0x1 c0 c1", api.ErrNone)
}

// 11.3: its own transaction's Writes, too; and the same Write, not another one of the same transaction.
func TestSeesOwn(t *testing.T) {
	checkSees(t, "w0x0 r0x0 c0", 0)
	checkSees(t, "r0x0 w0x0 r0x0 w0x0 r0x0 c0", 0)
	checkSees(t, "w1x0 w0x0 r0x0 c0 c1", 1, 0)
	checkUnseen(t, "w0x0 w1x0 r0x0 c0 c1", api.ErrNone)
	checkUnseen(t, "w0x0 r1x0 w0x0 c0 c1", api.ErrNone)
	checkSees(t, "w0x0 w0x0 r1x0 c0 c1", 0, 1)
}

// 11.3: each key is written last by the same Write.
func TestSeesLast(t *testing.T) {
	checkSees(t, "w0x0 w1x0 c0 c1", 0, 1)
	checkSees(t, "w1x0 w0x0 c0 c1", 1, 0)
	checkSees(t, "w1x0 w2x0 w0x0 c0 c1 c2", 1, 2, 0)
	checkSees(t, "w2x0 w1x0 w0x0 c0 c1 c2", 1, 2, 0)
	checkSees(t, "w2x0 w0x0 w1x0 c0 c1 c2", 0, 2, 1)
	checkSees(t, "w0x0 w1x0 w0x0 c0 c1", 1, 0)
	checkSees(t, "w0x0 w1x0 w1x1 w0x0 c0 c1", 1, 0)
	checkUnseen(t, "w0x0 w1x0 w1x1 w0x1 c0 c1", api.ErrNone)
	checkUnseen(t, "w0x0 w1x0 w1x1 w2x1 w2x2 w0x2 c0 c1 c2", api.ErrNone)
}

// 11.3: Writes that nobody reads may clash whichever way.
func TestSeesBlind(t *testing.T) {
	text := "r0x0 w1x0 w0x0 w2x0 c0 c1 c2"
	checkSees(t, text, 0, 1, 2)
	checkRound(t, text, 0, 1)
	text = "r2x0 w1x0 w2x0 w0x0 c0 c1 c2"
	checkSees(t, text, 2, 1, 0)
	checkRound(t, text, 1, 2)
}

// 11.3: the steps are those of Done: what one that does not commit wrote is not there to be read.
func TestSeesDone(t *testing.T) {
	checkSees(t, "w0x0 r1x0 a0 c1", 1)
	checkSees(t, "w0x0 r1x0 c1", 1)
	checkSees(t, "w2x0 w0x0 r1x0 a0 c1 c2", 2, 1)
	checkSees(t, "w1x0 w2x0 w0x0 c1 c2 a0", 1, 2)
	checkSees(t, "r0x0 w1x0 r0x0 c0 a1", 0)
}

// 11.3: ErrLimit: more than 6 commit, with steps or without.
func TestSeesLimit(t *testing.T) {
	checkSees(t, "c0 c1 c2 c3 c4 c5", 0, 1, 2, 3, 4, 5)
	checkSees(t, "c2 c3 c4 c5 c6 c7 a0 a1", 2, 3, 4, 5, 6, 7)
	checkSees(t, "w0x0 w1x0 c2 c3 c4 c5 c6 c7", 2, 3, 4, 5, 6, 7)
	checkUnseen(t, "c0 c1 c2 c3 c4 c5 c6", api.ErrLimit)
	checkUnseen(t, "c0 c1 c2 c3 c4 c5 c6 c7", api.ErrLimit)
	checkUnseen(t, "w0x0 w1x0 c1 c2 c3 c4 c5 c6 c7", api.ErrLimit)
	checkUnseen(t, "r0x0 w1x0 w0x0 c0 c1 c2 c3 c4 c5 c6", api.ErrLimit)
	checkClashes(t, "c0 c1 c2 c3 c4 c5 c6 c7", 0, 1, 2, 3, 4, 5, 6, 7)
	checkFault(t, "wrong, and more than 6 commit", steps("c0 c1 c2 c3 c4 c5 c6 r0x0"), api.ErrState, 7)
}

// 11.3: of six the last of all orders, or none.
func TestSeesLong(t *testing.T) {
	checkSees(t, "r7x0 w7x0 r6x0 w6x0 r5x0 w5x0 r4x0 w4x0 r3x0 w3x0 r2x0 w2x0 c2 c3 c4 c5 c6 c7", 7, 6, 5, 4, 3, 2)
	checkUnseen(t, "r2x0 r3x0 w2x0 w3x0 r4x0 r5x1 r6x2 r7x3 c2 c3 c4 c5 c6 c7", api.ErrNone)
}

// P4: what comes out is fresh, nothing that is handed in is written into or kept, nor what stands behind its length.
func TestArgumentStays(t *testing.T) {
	room := steps("w1x0 r0x0 w1x1 r0x1 w3x3 c1 c0 a3 r0x0 r9x9 w1x1")
	l := room[:8]
	was := slices.Clone(room)
	for range 2 {
		serial.Check(l)
		done := serial.Done(l)
		g, _ := serial.Graph(l)
		order, _, _ := serial.Clashes(l)
		seen, _ := serial.Sees(l)
		kind, _ := serial.Careful(l)
		if !slices.Equal(done, steps("w1x0 r0x0 w1x1 r0x1")) || roads(t, g) != "10" || !slices.Equal(order, []int{1, 0}) || !slices.Equal(seen, []int{1, 0}) || kind != (serial.Kind{Recover: true}) {
			t.Fatalf("%v, %v, %v, %v, %v", done, g, order, seen, kind)
		}
		clear(done[:cap(done)])
		order[0], seen[0] = 9, 9
		for n, row := range g {
			if n != 1 && slices.Contains(row, true) {
				t.Fatalf("row %d: %v", n, row)
			}
			row = row[:cap(row)]
			for k := range row {
				row[k] = true
			}
		}
	}
	if !slices.Equal(room, was) {
		t.Errorf("%v was %v", room, was)
	}
	round := steps("r0x0 w1x0 c1 w0x0 c0")
	for range 2 {
		_, cycle, _ := serial.Clashes(round)
		if !slices.Equal(cycle, []int{0, 1}) {
			t.Fatal(cycle)
		}
		clear(cycle)
	}
}
