package graph_test

import (
	"slices"
	"strings"
	"testing"

	"testimony/api"
	"testimony/graph"
)

// read is the graph of a text, row by row: 1, where a road leads.
func read(text string) graph.Graph {
	var g graph.Graph
	for _, word := range strings.Fields(text) {
		var row []bool
		for _, c := range word {
			row = append(row, c == '1')
		}
		g = append(g, row)
	}
	return g
}

// drawn is the text of a graph.
func drawn(g graph.Graph) string {
	var l []string
	for _, row := range g {
		s := ""
		for _, leads := range row {
			if leads {
				s += "1"
			} else {
				s += "."
			}
		}
		l = append(l, s)
	}
	return strings.Join(l, " ")
}

// path is one of that many nodes, each of which leads to the one that is so much further, if there is one.
func path(nodes, step int) graph.Graph {
	g := blank(nodes)
	for n := range g {
		if to := n + step; to >= 0 && to < nodes {
			g[n][to] = true
		}
	}
	return g
}

// rising is 0, 1, 2 and so on; falling is that from behind.
func rising(n int) []int {
	l := make([]int, n)
	for i := range l {
		l[i] = i
	}
	return l
}

func falling(n int) []int {
	l := rising(n)
	slices.Reverse(l)
	return l
}

// checkOrder asks for Order; a want of nil: ErrCycle.
func checkOrder(t *testing.T, name string, g graph.Graph, want []int) {
	t.Helper()
	var fault error
	if want == nil {
		fault = api.ErrCycle
	}
	if order, err := graph.Order(g); !slices.Equal(order, want) || err != fault || err != nil && order != nil {
		t.Errorf("%s, %s: %v, %v, not %v", name, drawn(g), order, err, want)
	}
}

// 10.1: Order: each ahead of those to which it leads; at each place the least one that may stand there.
func TestOrder(t *testing.T) {
	checkOrder(t, "nothing", nil, []int{})
	checkOrder(t, "no rows", graph.Graph{}, []int{})
	checkOrder(t, "one", read("."), []int{0})
	checkOrder(t, "no roads", blank(5), rising(5))
	checkOrder(t, "to the next one", path(5, 1), rising(5))
	checkOrder(t, "to the one ahead", path(5, -1), falling(5))
	checkOrder(t, "as many as may be", path(40, 1), rising(40))
	checkOrder(t, "as many as may be, from behind", path(40, -1), falling(40))
	checkOrder(t, "to the one ahead of that", path(5, -2), []int{3, 1, 4, 2, 0})
}

// 10.1: the least one at each place, not the longest way first, nor what was freed first.
func TestOrderIsLeast(t *testing.T) {
	checkOrder(t, "0 is freed at once, and goes ahead of 2", read("... 1.. ..."), []int{1, 0, 2})
	checkOrder(t, "0 is freed late", read("... ... 1.."), []int{1, 2, 0})
	checkOrder(t, "1 needs not wait for 3", read(".... .... .... 1..."), []int{1, 2, 3, 0})
	checkOrder(t, "over another one", read(".... 1... .1.. ...."), []int{2, 1, 0, 3})
	checkOrder(t, "two that must be ahead", read("..... ..... 1.... ..... 1...."), []int{1, 2, 3, 4, 0})
	checkOrder(t, "two ways that meet", read(".11. ...1 ...1 ...."), []int{0, 1, 2, 3})
	checkOrder(t, "two ways that meet, from behind", read(".... 1... 1... .11."), []int{3, 1, 2, 0})
}

// 10.1: Order: ErrCycle.
func TestOrderCycle(t *testing.T) {
	checkOrder(t, "to itself", read("1"), nil)
	checkOrder(t, "the last one to itself", read("... ... ..1"), nil)
	checkOrder(t, "two", read(".1 1."), nil)
	checkOrder(t, "three, one beside", read(".1.. ...1 .... 1..."), nil)
	checkOrder(t, "behind a way in", read(".1... ..1.. ...1. ..1.. ....."), nil)
	checkOrder(t, "ahead of a way out", read(".1.. 1.1. ...1 ...."), nil)
	checkOrder(t, "all", full(40), nil)
	ring := path(40, 1)
	ring[39][0] = true
	checkOrder(t, "a ring", ring, nil)
}

// checkCycle asks for Cycle; no want: ErrNone.
func checkCycle(t *testing.T, name string, g graph.Graph, want ...int) {
	t.Helper()
	var fault error
	if len(want) == 0 {
		fault = api.ErrNone
	}
	if cycle, err := graph.Cycle(g); !slices.Equal(cycle, want) || err != fault || err != nil && cycle != nil {
		t.Errorf("%s, %s: %v, %v, not %v", name, drawn(g), cycle, err, want)
	}
}

// 10.1: Cycle: ErrNone.
func TestCycleNone(t *testing.T) {
	checkCycle(t, "nothing", nil)
	checkCycle(t, "no rows", graph.Graph{})
	checkCycle(t, "one", read("."))
	checkCycle(t, "no roads", blank(40))
	checkCycle(t, "a path", path(40, 1))
	checkCycle(t, "a path from behind", path(40, -1))
	checkCycle(t, "two ways to one", read(".11. ...1 ...1 ...."))
}

// 10.1: Cycle: a shortest one.
func TestCycleIsShortest(t *testing.T) {
	checkCycle(t, "to itself", read("1"), 0)
	checkCycle(t, "the last one to itself", read("... ... ..1"), 2)
	checkCycle(t, "two", read(".1 1."), 0, 1)
	checkCycle(t, "three", read(".1. ..1 1.."), 0, 1, 2)
	checkCycle(t, "three, the other way", read("..1 1.. .1."), 0, 2, 1)
	checkCycle(t, "to itself rather than two", read(".1. 1.. ..1"), 2)
	checkCycle(t, "two rather than three, of greater nodes", read(".1... ..1.. 1.... ....1 ...1."), 3, 4)
	checkCycle(t, "a shorter way over greater nodes", read(".1..1 ..1.. ...1. 1.... 1...."), 0, 4)
	checkCycle(t, "two of three", read(".1. ..1 11."), 1, 2)
	checkCycle(t, "a way in, a way out", read(".1... ..1.. ...1. .1..1 ....."), 1, 2, 3)
	ring := path(40, 1)
	ring[39][0] = true
	checkCycle(t, "a ring", ring, rising(40)...)
	ring[20][5] = true
	checkCycle(t, "a ring with a shorter one in it", ring, rising(40)[5:21]...)
	back := path(40, -1)
	back[0][39] = true
	checkCycle(t, "a ring from behind", back, append([]int{0}, falling(40)[:39]...)...)
}

// 10.1: Cycle: from its least node on, and of several the first one.
func TestCycleIsFirst(t *testing.T) {
	checkCycle(t, "two that lead to themselves", read("... .1. ..1"), 1)
	checkCycle(t, "all", full(40), 0)
	checkCycle(t, "each pair", read(".11 1.1 11."), 0, 1)
	checkCycle(t, "two pairs apart", read("..... ....1 ...1. ..1.. .1..."), 1, 4)
	checkCycle(t, "0 and 3, or 1 and 2", read("...1 ..1. .1.. 1..."), 0, 3)
	checkCycle(t, "0 1 3 ahead of 0 2 1", read(".11. ...1 .1.. 1..."), 0, 1, 3)
	checkCycle(t, "the second number tells", read(".11.. ...1. ....1 1.... 1...."), 0, 1, 3)
	checkCycle(t, "the third number tells", read(".1... ..11. 1.... 1.... ....."), 0, 1, 2)
	checkCycle(t, "the next least one leads nowhere", read(".111. ..... ...1. ....1 1...."), 0, 3, 4)
	checkCycle(t, "the next least one leads back too late", read(".1.1. ..1.. ....1 ....1 1...."), 0, 3, 4)
}

func checkGroups(t *testing.T, name string, g graph.Graph, want ...int) {
	t.Helper()
	if groups, err := graph.Groups(g); !slices.Equal(groups, want) || err != nil {
		t.Errorf("%s, %s: %v, %v, not %v", name, drawn(g), groups, err, want)
	}
}

// 10.1: Groups: the least one that it is, or leads to and back.
func TestGroups(t *testing.T) {
	checkGroups(t, "nothing", nil)
	checkGroups(t, "one", read("."), 0)
	checkGroups(t, "to itself", read("1"), 0)
	checkGroups(t, "no roads", blank(40), rising(40)...)
	checkGroups(t, "there, but not back", path(40, 1), rising(40)...)
	checkGroups(t, "back, but not there", path(40, -1), rising(40)...)
	checkGroups(t, "two", read(".1 1."), 0, 0)
	checkGroups(t, "two of three", read("... ..1 .1."), 0, 1, 1)
	checkGroups(t, "over others", read(".1.. ..1. ...1 1..."), 0, 0, 0, 0)
	checkGroups(t, "over others, from behind", read("...1 1... .1.. ..1."), 0, 0, 0, 0)
	checkGroups(t, "two groups, one leads to the other", read("..1... ...1.. 1..1.. .1.... ....1. ......"), 0, 1, 0, 1, 4, 5)
	checkGroups(t, "two ways round with a node in common", read(".1... 1.... .1.1. ....1 ..1.."), 0, 0, 2, 2, 2)
	checkGroups(t, "both share one", read("..... ...1. ...1. .11.. ....."), 0, 1, 1, 1, 4)
	checkGroups(t, "all", full(40), make([]int, 40)...)
	ring := path(40, 1)
	ring[39][1] = true
	checkGroups(t, "all but the first", ring, append([]int{0}, slices.Repeat([]int{1}, 39)...)...)
}

func checkClosed(t *testing.T, name string, g graph.Graph, want string) {
	t.Helper()
	if closed, err := graph.Closed(g); drawn(closed) != want || err != nil {
		t.Errorf("%s, %s: %s, %v, not %s", name, drawn(g), drawn(closed), err, want)
	}
}

// 10.1: Closed: over one road or more; to itself just if there is a way back.
func TestClosed(t *testing.T) {
	checkClosed(t, "nothing", nil, "")
	checkClosed(t, "one", read("."), ".")
	checkClosed(t, "to itself", read("1"), "1")
	checkClosed(t, "one road", read(".1 .."), ".1 ..")
	checkClosed(t, "two roads", read(".1. ..1 ..."), ".11 ..1 ...")
	checkClosed(t, "from behind", read("... 1.. .1."), "... 1.. 11.")
	checkClosed(t, "two", read(".1 1."), "11 11")
	checkClosed(t, "a way in, a way out", read(".1... ..1.. .1.1. ....1 ....."), ".1111 .1111 .1111 ....1 .....")
	checkClosed(t, "two apart", read(".1.. .... ...1 ...."), ".1.. .... ...1 ....")
	checkClosed(t, "all", full(40), drawn(full(40)))
	checkClosed(t, "none", blank(40), drawn(blank(40)))
	far := blank(40)
	for from, row := range far {
		for to := range row {
			row[to] = from < to
		}
	}
	checkClosed(t, "a path", path(40, 1), drawn(far))
	ring := path(40, 1)
	ring[39][0] = true
	checkClosed(t, "a ring", ring, drawn(full(40)))
}

// P4: nothing that is handed in is written into or kept, nor what stands behind its length.
func TestArgumentStays(t *testing.T) {
	room := read("11111 1...1 11.11 .1.11 11111")
	g := room[:3]
	for n := range g {
		g[n] = g[n][:3]
	}
	was := drawn(read("11111 1...1 11.11 .1.11 11111"))
	for range 2 {
		graph.Check(g)
		graph.Order(g)
		graph.Cycle(g)
		graph.Groups(g)
		graph.Closed(g)
	}
	for n := range room {
		room[n] = room[n][:5]
	}
	if drawn(room) != was {
		t.Errorf("%s was %s", drawn(room), was)
	}
}

// P4: what comes out is fresh: writing into it changes no answer, no other list of it, and nothing that was handed in.
func TestAnswerIsFresh(t *testing.T) {
	g, plain := read(".1. ..1 1.."), path(3, 1)
	for range 2 {
		order, _ := graph.Order(plain)
		cycle, _ := graph.Cycle(g)
		groups, _ := graph.Groups(g)
		if !slices.Equal(order, rising(3)) || !slices.Equal(cycle, rising(3)) || !slices.Equal(groups, make([]int, 3)) {
			t.Fatalf("%v, %v, %v", order, cycle, groups)
		}
		for n := range 3 {
			order[n], cycle[n], groups[n] = 9, 9, 9
		}
		closed, _ := graph.Closed(plain)
		for n, row := range closed {
			if want := [][]bool{{false, true, true}, {false, false, true}, {false, false, false}}[n]; !slices.Equal(row, want) {
				t.Fatalf("row %d: %v", n, row)
			}
			row = row[:cap(row)]
			for i := range row {
				row[i] = !row[i]
			}
		}
	}
	if drawn(g) != ".1. ..1 1.." || drawn(plain) != ".1. ..1 ..." {
		t.Errorf("%s, %s", drawn(g), drawn(plain))
	}
}
