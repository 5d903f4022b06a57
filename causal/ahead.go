package causal

import "testimony/api"

// none stands for the number of an op that there isn't.
const none = -1

// spot is a value at a key.
type spot struct{ key, value int }

// writers are the numbers of the writes, by what they write where. None writes 0.
type writers map[spot]int

// source is the number of the write that an op reads. A write reads none, as its Result is 0.
func (all writers) source(op api.Op) int {
	if n, written := all[spot{op.Key, op.Result}]; written {
		return n
	}
	return none
}

// thin is the least read of what is not written.
func (all writers) thin(ops []api.Op) int {
	for n, op := range ops {
		if op.Result != 0 && all.source(op) == none {
			return n
		}
	}
	return none
}

// ahead is, row by row, what comes ahead of what.
func (all writers) ahead(ops []api.Op) [][]bool {
	rows := make([][]bool, len(ops))
	for a, first := range ops {
		rows[a] = make([]bool, len(ops))
		for b, second := range ops {
			ofProcess := first.Proc == second.Proc && first.Call < second.Call
			rows[a][b] = ofProcess || all.source(second) == a
		}
	}
	lead(rows)
	return rows
}

// lead adds what comes ahead over others between (Warshall).
func lead(rows [][]bool) {
	for between, next := range rows {
		for _, row := range rows {
			if !row[between] {
				continue
			}
			for b := range row {
				row[b] = row[b] || next[b]
			}
		}
	}
}

// round is the least op that is ahead of itself.
func round(ahead [][]bool) int {
	for n, row := range ahead {
		if row[n] {
			return n
		}
	}
	return none
}

// empty is the least read of 0, and of it the least write of its key ahead of it.
func empty(ops []api.Op, ahead [][]bool) (read, write int) {
	return least(ops, func(read, write int) bool {
		return ops[read].Result == 0 && ahead[write][read]
	})
}

// stale is the least read, and of it the least write between the one that it reads and itself. It is asked where nothing is ahead of itself, so that the write isn't the one that is read.
func (all writers) stale(ops []api.Op, ahead [][]bool) (read, write int) {
	return least(ops, func(read, write int) bool {
		source := all.source(ops[read])
		return source != none && ahead[source][write] && ahead[write][read]
	})
}

// least is the least read, and of it the least write of its key, of which that holds.
func least(ops []api.Op, holds func(read, write int) bool) (read, write int) {
	for r, op := range ops {
		if op.Kind != api.Read {
			continue
		}
		for w, other := range ops {
			if other.Kind == api.Write && other.Key == op.Key && holds(r, w) {
				return r, w
			}
		}
	}
	return none, none
}
