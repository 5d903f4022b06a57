package graph_test

import (
	"testing"

	"testimony/api"
	"testimony/graph"
)

// blank is a graph of that many nodes without a road.
func blank(nodes int) graph.Graph {
	g := make(graph.Graph, nodes)
	for n := range g {
		g[n] = make([]bool, nodes)
	}
	return g
}

// full is one in which each node leads to each, and to itself.
func full(nodes int) graph.Graph {
	g := blank(nodes)
	for _, row := range g {
		for n := range row {
			row[n] = true
		}
	}
	return g
}

// checkFault asks whether all tell want, without a place, and nothing beside it.
func checkFault(t *testing.T, name string, g graph.Graph, want api.Errno) {
	t.Helper()
	tell := func(face string, empty bool, err error) {
		t.Helper()
		if !empty || err != error(want) {
			t.Errorf("%s: %s tells %v (%#v), nothing beside it: %v; not %v", name, face, err, err, empty, want)
		}
	}
	tell("Check", true, graph.Check(g))
	order, err := graph.Order(g)
	tell("Order", order == nil, err)
	cycle, err := graph.Cycle(g)
	tell("Cycle", cycle == nil, err)
	groups, err := graph.Groups(g)
	tell("Groups", groups == nil, err)
	closed, err := graph.Closed(g)
	tell("Closed", closed == nil, err)
}

// 10.1: what may be.
func TestCheckFine(t *testing.T) {
	for _, g := range []graph.Graph{nil, {}, blank(1), full(1), blank(2), full(3), blank(40), full(40)} {
		if err := graph.Check(g); err != nil {
			t.Errorf("%d nodes: %v", len(g), err)
		}
	}
}

// 10.1: ErrLimit, ahead of what is wrong with a row.
func TestCheckLimit(t *testing.T) {
	checkFault(t, "one more", blank(41), api.ErrLimit)
	checkFault(t, "one more, full", full(41), api.ErrLimit)
	checkFault(t, "far more", blank(500), api.ErrLimit)
	checkFault(t, "one more, without rows", make(graph.Graph, 41), api.ErrLimit)
	checkFault(t, "one more, of rows that would do for 40", append(blank(40), make([]bool, 40)), api.ErrLimit)
}

// 10.1: ErrForm: a row has fewer, or more, than there are rows.
func TestCheckForm(t *testing.T) {
	checkFault(t, "no row", graph.Graph{nil}, api.ErrForm)
	checkFault(t, "an empty row", graph.Graph{{}}, api.ErrForm)
	checkFault(t, "a longer row", graph.Graph{{false, false}}, api.ErrForm)
	checkFault(t, "40 without rows", make(graph.Graph, 40), api.ErrForm)
	for _, nodes := range []int{2, 3, 40} {
		for place := range nodes {
			for _, long := range []int{0, 1, nodes - 1, nodes + 1, 2 * nodes, 1000} {
				g := full(nodes)
				g[place] = make([]bool, long)
				checkFault(t, "one row is of another length", g, api.ErrForm)
			}
		}
	}
	row := make([]bool, 3)
	checkFault(t, "no square", graph.Graph{row, row}, api.ErrForm)
	checkFault(t, "room behind a row's length is none", graph.Graph{row[:2], row[:2], row[:2]}, api.ErrForm)
}
