package graph

// none stands for a node that there isn't.
const none = -1

// next is the least node that may stand behind those that are placed.
func next(g Graph, placed []bool) int {
nodes:
	for node := range g {
		if placed[node] {
			continue
		}
		for from, row := range g {
			if row[node] && !placed[from] {
				continue nodes
			}
		}
		return node
	}
	return none
}

// distances are, of each two nodes, over how many roads the one leads to the other, at the fewest; 0: over none. A node is not at itself without a road: it may not lead back.
func distances(g Graph) [][]int {
	far := make([][]int, len(g))
	for from, row := range g {
		far[from] = make([]int, len(g))
		for to, leads := range row {
			if leads {
				far[from][to] = 1
			}
		}
	}
	for over := range far {
		for _, row := range far {
			if row[over] > 0 {
				shorten(row, far[over], row[over])
			}
		}
	}
	return far
}

// shorten takes the way over another node, at that distance, where that one leads there over fewer roads.
func shorten(row, other []int, distance int) {
	for to, roads := range other {
		if roads > 0 && (row[to] == 0 || distance+roads < row[to]) {
			row[to] = distance + roads
		}
	}
}

// nearest is the least node of those that lead back to themselves over the fewest roads. No lesser one lies on its way round, as that one would be as near.
func nearest(far [][]int) int {
	best := none
	for node, row := range far {
		if row[node] > 0 && (best == none || row[node] < far[best][best]) {
			best = node
		}
	}
	return best
}

// toward is the least node that another one leads to, with that many roads left to the end.
func toward(g Graph, far [][]int, from, end, left int) int {
	for node, leads := range g[from] {
		if leads && far[node][end] == left {
			return node
		}
	}
	return none
}

// leader is the least node of a node's group, where the graph tells what leads to what over others, too.
func leader(closed Graph, node int) int {
	for other := range node {
		if closed[node][other] && closed[other][node] {
			return other
		}
	}
	return node
}
