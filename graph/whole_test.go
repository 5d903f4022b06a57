package graph_test

import (
	"slices"
	"testing"

	"testimony/api"
	"testimony/graph"
)

// die: numbers that look drawn, the same each time.
type die uint64

func (d *die) n(most int) int {
	*d = *d*6364136223846793005 + 1442695040888963407
	return int(uint64(*d>>33) % uint64(most))
}

// draw is a graph of at most that many nodes, with at most so many roads a node; most of them along an order that was drawn, one in so many back, fewer to oneself, or straight back. In half of them some nodes stand in a ring.
func draw(d *die, most, roads, back int) graph.Graph {
	nodes := d.n(most + 1)
	at := rising(nodes)
	for n := range at {
		k := n + d.n(nodes-n)
		at[n], at[k] = at[k], at[n]
	}
	g := blank(nodes)
	for range d.n(roads*nodes + 1) {
		from, to := d.n(nodes), d.n(nodes)
		if (at[from] < at[to] || d.n(back) == 0) && (from != to || d.n(8) == 0) && (!g[to][from] || d.n(4) == 0) {
			g[from][to] = true
		}
	}
	if ring := d.n(nodes + 1); d.n(2) == 0 {
		for from, place := range at {
			if place < ring {
				g[from][slices.Index(at, (place+1)%ring)] = true
			}
		}
	}
	return g
}

// fits says whether each node is ahead of those to which it leads.
func fits(g graph.Graph, order []int) bool {
	for place, late := range order {
		for _, early := range order[:place+1] {
			if g[late][early] {
				return false
			}
		}
	}
	return true
}

// plainOrder tries all orders, the first one first.
func plainOrder(g graph.Graph, order []int) []int {
	if len(order) == len(g) {
		return order
	}
	for node := range g {
		longer := append(slices.Clone(order), node)
		if slices.Contains(order, node) || !fits(g, longer) {
			continue
		}
		if whole := plainOrder(g, longer); whole != nil {
			return whole
		}
	}
	return nil
}

// isLeast says whether, at each place, no lesser one that comes later could stand: another one that comes later leads to it.
func isLeast(g graph.Graph, order []int) bool {
	for place, node := range order {
		for _, later := range order[place:] {
			leads := func(from int) bool { return g[from][later] }
			if later < node && !slices.ContainsFunc(order[place:], leads) {
				return false
			}
		}
	}
	return true
}

// plainCycle tries all rows of that length that begin so, the first one first, none of whose nodes is less than the first one, and all of which lead back to it in the end (else there would be too many).
func plainCycle(g, closed graph.Graph, row []int, length int) []int {
	if len(row) == length {
		if g[row[length-1]][row[0]] {
			return row
		}
		return nil
	}
	for node := row[0]; node < len(g); node++ {
		if g[row[len(row)-1]][node] && closed[node][row[0]] {
			if whole := plainCycle(g, closed, append(slices.Clone(row), node), length); whole != nil {
				return whole
			}
		}
	}
	return nil
}

// shortest is promise 10.1 of Cycle word by word: the first row of the least length that there is.
func shortest(g graph.Graph) []int {
	closed := plainClosed(g)
	for length := 1; length <= len(g); length++ {
		for first := range g {
			if cycle := plainCycle(g, closed, []int{first}, length); cycle != nil {
				return cycle
			}
		}
	}
	return nil
}

// reach marks what a node leads to, going from one to the next.
func reach(g graph.Graph, from int, there []bool) {
	for to, leads := range g[from] {
		if leads && !there[to] {
			there[to] = true
			reach(g, to, there)
		}
	}
}

// plainClosed is promise 10.1 of Closed word by word.
func plainClosed(g graph.Graph) graph.Graph {
	closed := blank(len(g))
	for from := range g {
		reach(g, from, closed[from])
	}
	return closed
}

// plainGroups is promise 10.1 of Groups word by word.
func plainGroups(g graph.Graph) []int {
	var groups []int
	closed := plainClosed(g)
	for node := range g {
		for other := range g {
			if other == node || closed[node][other] && closed[other][node] {
				groups = append(groups, other)
				break
			}
		}
	}
	return groups
}

// 10.1: what is told is that of the promise's own words.
func TestIsPlain(t *testing.T) {
	d := die(101)
	lengths := map[int]int{}
	for range 8000 {
		g := draw(&d, 7, 1+d.n(3), 1+d.n(9))
		order, cycle := plainOrder(g, []int{}), shortest(g)
		lengths[len(cycle)]++
		checkOrder(t, "drawn", g, order)
		checkCycle(t, "drawn", g, cycle...)
		checkGroups(t, "drawn", g, plainGroups(g)...)
		checkClosed(t, "drawn", g, drawn(plainClosed(g)))
	}
	for length := range 5 {
		if lengths[length] < 50 {
			t.Errorf("too few of a length: %v", lengths)
		}
	}
}

// Of great graphs, too, what is told is that of the promise's own words.
func TestGreatIsPlain(t *testing.T) {
	d := die(102)
	lengths := map[int]int{}
	for range 1500 {
		g := draw(&d, 40, 1+d.n(3), 1+d.n(6))
		cycle := shortest(g)
		lengths[len(cycle)]++
		checkCycle(t, "drawn", g, cycle...)
		checkGroups(t, "drawn", g, plainGroups(g)...)
		checkClosed(t, "drawn", g, drawn(plainClosed(g)))
		if cycle != nil {
			checkOrder(t, "drawn", g, nil)
			continue
		}
		order, err := graph.Order(g)
		if err != nil || len(order) != len(g) || !fits(g, order) || !isLeast(g, order) {
			t.Errorf("%s: %v, %v", drawn(g), order, err)
		}
	}
	for length := range 7 {
		if lengths[length] < 20 {
			t.Errorf("too few of a length: %v", lengths)
		}
	}
}

// A graph has an order or goes round.
func TestOrderOrCycle(t *testing.T) {
	d := die(103)
	ordered, round := 0, 0
	for range 3000 {
		g := draw(&d, 40, 1+d.n(20), 1+d.n(400))
		order, err := graph.Order(g)
		cycle, fault := graph.Cycle(g)
		switch {
		case err == nil && fault == error(api.ErrNone):
			ordered++
			if len(order) != len(g) || !fits(g, order) {
				t.Fatalf("%s: %v", drawn(g), order)
			}
		case err == error(api.ErrCycle) && fault == nil:
			round++
			for place, node := range cycle {
				if !g[node][cycle[(place+1)%len(cycle)]] {
					t.Fatalf("%s: %v", drawn(g), cycle)
				}
			}
		default:
			t.Fatalf("%s: %v, %v; %v, %v", drawn(g), order, err, cycle, fault)
		}
	}
	if min(ordered, round) < 300 {
		t.Errorf("too few of a kind: %d have an order, %d go round", ordered, round)
	}
}

// What is closed stays as it is when it is closed again, and groups and orders are those of what was closed.
func TestClosedStays(t *testing.T) {
	d := die(104)
	for range 1000 {
		g := draw(&d, 40, 1+d.n(30), 1+d.n(100))
		closed, err := graph.Closed(g)
		if err != nil {
			t.Fatal(err)
		}
		checkClosed(t, "closed again", closed, drawn(closed))
		groups, _ := graph.Groups(g)
		checkGroups(t, "closed", closed, groups...)
		order, err := graph.Order(g)
		if err != nil {
			order = nil
		}
		checkOrder(t, "closed", closed, order)
	}
}
