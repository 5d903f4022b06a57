package serial_test

import (
	"slices"
	"strings"
	"testing"

	"testimony/api"
	"testimony/graph"
	"testimony/serial"
)

// roads are those of a graph of all transactions as a text: 01 is one from 0 to 1.
func roads(t *testing.T, g graph.Graph) string {
	t.Helper()
	var l []string
	if len(g) != api.MaxTx {
		t.Fatalf("%d nodes", len(g))
	}
	for from, row := range g {
		if len(row) != api.MaxTx {
			t.Fatalf("%d nodes, but %d", len(g), len(row))
		}
		for to, leads := range row {
			if leads {
				l = append(l, string([]byte{'0' + byte(from), '0' + byte(to)}))
			}
		}
	}
	return strings.Join(l, " ")
}

func checkGraph(t *testing.T, text, want string) {
	t.Helper()
	g, err := serial.Graph(steps(text))
	if got := roads(t, g); got != want || err != nil {
		t.Errorf("%s: %s, %v, not %s", text, got, err, want)
	}
}

// 11.2: which steps clash, and which way it leads.
func TestGraphOfTwo(t *testing.T) {
	checkGraph(t, "", "")
	checkGraph(t, "c0 c1", "")
	checkGraph(t, "r0x0 w1x0 c0 c1", "01")
	checkGraph(t, "w0x0 r1x0 c0 c1", "01")
	checkGraph(t, "w0x0 w1x0 c0 c1", "01")
	checkGraph(t, "w1x0 w0x0 c0 c1", "10")
	checkGraph(t, "r0x0 r1x0 c0 c1", "")
	checkGraph(t, "r0x0 w1x1 c0 c1", "")
	checkGraph(t, "w0x0 w1x1 c0 c1", "")
	checkGraph(t, "w0x0 r0x0 w0x0 c0", "")
	checkGraph(t, "w7x7 w6x7 c6 c7", "76")
}

// 11.2: steps that lie apart, many of them; neither over others, nor back.
func TestGraphOfMany(t *testing.T) {
	checkGraph(t, "r0x0 w1x0 c1 w0x0 c0", "01 10")
	checkGraph(t, "w0x0 r2x1 r0x3 w1x1 r2x0 c0 c1 c2", "02 21")
	checkGraph(t, "w0x0 w1x0 w2x0 c0 c1 c2", "01 02 12")
	checkGraph(t, "r0x0 r1x0 w2x0 c0 c1 c2", "02 12")
	checkGraph(t, "w0x0 w1x0 w1x1 w2x1 c0 c1 c2", "01 12")
	checkGraph(t, "c0 w1x0 c1 w2x0 c2", "12")
	checkGraph(t, "w0x0 w1x0 w2x0 w3x0 w4x0 w5x0 w6x0 w7x0 c0 c1 c2 c3 c4 c5 c6 c7",
		"01 02 03 04 05 06 07 12 13 14 15 16 17 23 24 25 26 27 34 35 36 37 45 46 47 56 57 67")
}

// 11.2: among those that Done tells: steps of those that don't commit have no part in it.
func TestGraphOfDone(t *testing.T) {
	checkGraph(t, "w0x0 w1x0 a0 c1", "")
	checkGraph(t, "w0x0 w1x0 c0 a1", "")
	checkGraph(t, "w0x0 w1x0 c0", "")
	checkGraph(t, "w0x0 w1x0", "")
	checkGraph(t, "w0x0 w1x0 a1 r2x0 c0 c2", "02")
}

// checkClashes asks for Clashes where there is an order.
func checkClashes(t *testing.T, text string, want ...int) {
	t.Helper()
	if order, cycle, err := serial.Clashes(steps(text)); !slices.Equal(order, want) || cycle != nil || err != nil {
		t.Errorf("%s: %v, %v, %v, not %v", text, order, cycle, err, want)
	}
}

// checkRound asks for Clashes where it goes round.
func checkRound(t *testing.T, text string, want ...int) {
	t.Helper()
	if order, cycle, err := serial.Clashes(steps(text)); order != nil || !slices.Equal(cycle, want) || err != error(api.ErrCycle) {
		t.Errorf("%s: %v, %v, %v, not %v", text, order, cycle, err, want)
	}
}

// 11.2: Clashes: those that commit, in the order of all.
func TestClashes(t *testing.T) {
	checkClashes(t, "")
	checkClashes(t, "r0x0 w1x0 a0")
	checkClashes(t, "c5", 5)
	checkClashes(t, "c7 c3 c5", 3, 5, 7)
	checkClashes(t, "w0x0 w1x0 c0 c1", 0, 1)
	checkClashes(t, "w1x0 w0x0 c0 c1", 1, 0)
	checkClashes(t, "w1x0 c1 w0x0 c2 c0", 1, 0, 2)
	checkClashes(t, "w2x0 c1 w0x0 c2 c0", 1, 2, 0)
	checkClashes(t, "w7x0 c7 w0x0 c0", 7, 0)
	checkClashes(t, "w7x0 c1 w3x0 c7 w0x0 c0 w5x5 c3 a2", 1, 7, 3, 0)
	checkClashes(t, "w2x0 w1x0 w1x1 w0x1 c0 c1 c2", 2, 1, 0)
	checkClashes(t, "w7x0 w6x0 w5x0 w4x0 w3x0 w2x0 w1x0 w0x0 c0 c1 c2 c3 c4 c5 c6 c7", 7, 6, 5, 4, 3, 2, 1, 0)
}

// 11.2: Clashes: ErrCycle, and a shortest way round.
func TestClashesRound(t *testing.T) {
	checkRound(t, "r0x0 w1x0 c1 w0x0 c0", 0, 1) // the document's own
	checkRound(t, "r1x0 w0x0 c0 w1x0 c1", 0, 1)
	checkRound(t, "w2x0 w1x0 w1x1 w0x1 w0x2 w2x2 c0 c1 c2", 0, 2, 1)
	checkRound(t, "w0x0 w1x0 w1x1 w2x1 w2x2 w0x2 w5x5 w6x5 w5x5 c0 c1 c2 c5 c6", 5, 6)
	checkRound(t, "w6x0 w7x0 w6x0 c0 c1 c6 c7", 6, 7)
	checkRound(t, "w6x0 w7x0 w6x0 w1x1 w4x1 w1x1 c1 c4 c6 c7", 1, 4)
}

// 11.2: what goes round with one that does not commit does not.
func TestClashesOfDone(t *testing.T) {
	checkClashes(t, "r0x0 w1x0 c1 w0x0 a0", 1)
	checkClashes(t, "r0x0 w1x0 c1 w0x0", 1)
	checkClashes(t, "r0x0 w1x0 a1 w0x0 c0 c2", 0, 2)
	checkRound(t, "r0x0 w1x0 c1 w0x0 c0 w2x0 a2 w3x0", 0, 1)
}
