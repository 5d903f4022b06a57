package lock

import (
	"testimony/graph"
	"testimony/serial"
)

// nobody stands for a transaction that there isn't.
const nobody = -1

// run is a plan on its way: the locks that are held; of each transaction the steps that are left, and whether it is over; who waits, and for whom; what came of it so far.
type run struct {
	table
	left    [][]serial.Step
	over    []bool
	waits   map[int]crowd
	outcome Outcome
}

// begin is a run of which nothing is done.
func begin(p Plan) *run {
	r := &run{left: make([][]serial.Step, len(p)), over: make([]bool, len(p)), waits: map[int]crowd{}}
	copy(r.left, p)
	r.outcome.Waits = make([]int, len(p))
	return r
}

// goOn lets a transaction do its next step, commit, or wait.
func (r *run) goOn(tx int) {
	if r.over[tx] {
		return
	}
	delete(r.waits, tx)
	if len(r.left[tx]) == 0 {
		r.end(tx, serial.Commit)
		return
	}
	step := r.left[tx][0]
	if others := r.against(step); others != 0 {
		r.wait(tx, others)
		return
	}
	r.take(step)
	r.left[tx] = r.left[tx][1:]
	r.outcome.Done = append(r.outcome.Done, step)
}

// wait lets a transaction wait for others, as they are now: who takes the lock beside them later is waited for only from the next time on.
func (r *run) wait(tx int, others crowd) {
	r.waits[tx] = others
	r.outcome.Waits[tx]++
	if victim := r.victim(tx); victim != nobody {
		r.end(victim, serial.Abort)
		r.outcome.Victim = append(r.outcome.Victim, victim)
	}
}

// end lets a transaction be over, by that kind of step: it holds nothing any more, and waits for nobody.
func (r *run) end(tx, kind int) {
	r.over[tx] = true
	delete(r.waits, tx)
	r.free(func(held serial.Step) bool { return held.Tx == tx })
	r.outcome.Done = append(r.outcome.Done, serial.Step{Tx: tx, Kind: kind})
}

// victim is the greatest one of those that a transaction waits for, and that wait for it, over others, too: itself among them, if there are any.
func (r *run) victim(tx int) int {
	closed, err := graph.Closed(r.waiting())
	if err != nil {
		return nobody
	}
	victim := nobody
	for other := range closed {
		if closed[tx][other] && closed[other][tx] {
			victim = other
		}
	}
	return victim
}

// waiting is who waits for whom, as a graph.
func (r *run) waiting() graph.Graph {
	g := make(graph.Graph, len(r.over))
	for tx := range g {
		g[tx] = make([]bool, len(g))
		for other := range g[tx] {
			g[tx][other] = r.waits[tx].has(other)
		}
	}
	return g
}
