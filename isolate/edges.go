package isolate

import (
	"slices"

	"testimony/graph"
)

// blank is a graph of that many nodes, none of which leads anywhere.
func blank(nodes int) graph.Graph {
	g := make(graph.Graph, nodes)
	for node := range g {
		g[node] = make([]bool, nodes)
	}
	return g
}

// over leads from each transaction to the one right behind it in a key's list.
func over(s Story) graph.Graph {
	g := blank(len(s.Txs))
	for _, list := range s.Order {
		for n := 1; n < len(list); n++ {
			g[list[n-1]][list[n]] = true
		}
	}
	return g
}

// behind is the one right behind from in a key's list, or nobody. What was there at first is ahead of the whole list: it stands at no place, which Index tells as -1.
func behind(list []int, from int) int {
	next := slices.Index(list, from) + 1
	if next == len(list) {
		return nobody
	}
	return list[next]
}

// together leads where one of two graphs, of as many nodes, does.
func together(a, b graph.Graph) graph.Graph {
	g := blank(len(a))
	for from, row := range g {
		for to := range row {
			row[to] = a[from][to] || b[from][to]
		}
	}
	return g
}

// goesRound says whether a node leads back to itself.
func goesRound(g graph.Graph) bool {
	_, err := graph.Cycle(g)
	return err == nil
}

// leadsBack says whether an edge ends where a graph leads back to its beginning, over others, too.
func leadsBack(edges, g graph.Graph) bool {
	closed, err := graph.Closed(g)
	if err != nil {
		return false
	}
	for from, row := range edges {
		for to, leads := range row {
			if leads && closed[to][from] {
				return true
			}
		}
	}
	return false
}
