package causal_test

import (
	"testing"

	"testimony/api"
	"testimony/causal"
	"testimony/event"
	"testimony/linear"
)

// die: numbers that look drawn, the same each time.
type die uint64

func (d *die) n(most int) int {
	*d = *d*6364136223846793005 + 1442695040888963407
	return int(uint64(*d>>33) % uint64(most))
}

// Where a process is with its op.
const (
	free = iota
	called
	took
	wheres
)

// valueOf is what that write of a key writes; 0: what is there at first. The values don't rise, and are the same of each key.
func valueOf(write int) int { return (write%2*2 - 1) * (write * 37 % 101) }

// bench is some registers, and processes that are at them.
type bench struct {
	*die
	keys, wrong int // of how many reads one is told something else
	registers   [api.MaxKeys]int
	writes      [api.MaxKeys]int
	at          [4]int
	busy        [4]event.Event
	seen        []event.Event
}

// step takes a process on: it calls, its op takes place, it comes to its end.
func (b *bench) step(p int) {
	e := &b.busy[p]
	switch b.at[p] {
	case free:
		*e = event.Event{Proc: p, Type: event.Invoke, Key: b.n(b.keys), Kind: api.Read}
		if b.n(5) < 2 {
			b.writes[e.Key]++
			e.Kind, e.A = api.Write, valueOf(b.writes[e.Key])
		}
		b.seen = append(b.seen, *e)
	case called:
		b.take(e)
	case took:
		b.seen = append(b.seen, *e)
	}
	b.at[p] = (b.at[p] + 1) % wheres
}

// take lets an op take place.
func (b *bench) take(e *event.Event) {
	e.Type = event.Ok
	if e.Kind == api.Write {
		b.registers[e.Key] = e.A
		return
	}
	if e.Result = b.registers[e.Key]; b.n(b.wrong) == 0 {
		e.Result = valueOf(b.n(b.writes[e.Key] + 2)) // perhaps that of the next write
	}
}

// history is at most that many ops, all at their ends, that take place in between.
func history(t *testing.T, d *die, most, wrong int) []api.Op {
	t.Helper()
	b := bench{die: d, keys: 1 + d.n(3), wrong: wrong}
	for range d.n(max(wheres*most-8, 1)) {
		b.step(d.n(len(b.at)))
	}
	for p := range b.at {
		for b.at[p] != free {
			b.step(p)
		}
	}
	ops, err := event.Ops(b.seen)
	if err != nil || len(ops) > most {
		t.Fatalf("%d ops, %v", len(ops), err)
	}
	return ops
}

// reads says whether one op reads another one.
func reads(second, first api.Op) bool {
	return second.Kind == api.Read && first.Kind == api.Write && first.Key == second.Key && first.A == second.Result
}

// isThin says whether a read's value is not written.
func isThin(ops []api.Op, op api.Op) bool {
	for _, other := range ops {
		if reads(op, other) {
			return false
		}
	}
	return op.Kind == api.Read && op.Result != 0
}

// reach marks what comes behind an op, going from one to the next.
func reach(ops []api.Op, from int, behind []bool) {
	for n, op := range ops {
		first := ops[from]
		if !behind[n] && (reads(op, first) || first.Proc == op.Proc && first.Call < op.Call) {
			behind[n] = true
			reach(ops, n, behind)
		}
	}
}

// plainAhead is promise 7.2 word by word, where there is no error.
func plainAhead(ops []api.Op) [][]bool {
	rows := make([][]bool, len(ops))
	for n := range rows {
		rows[n] = make([]bool, len(ops))
		reach(ops, n, rows[n])
	}
	return rows
}

// isBad is promise 7.3 word by word: whether these two ops are what can't be by that code.
func isBad(ops []api.Op, ahead [][]bool, code, a, b int) bool {
	x, y := ops[a], ops[b]
	switch code {
	case causal.Thin:
		return a == b && isThin(ops, x)
	case causal.Round:
		return a == b && ahead[a][a]
	}
	if x.Kind != api.Read || y.Kind != api.Write || x.Key != y.Key || !ahead[b][a] {
		return false
	}
	if code == causal.Empty {
		return x.Result == 0
	}
	for n, other := range ops {
		if reads(x, other) && n != b && ahead[n][b] && ahead[n][a] {
			return true
		}
	}
	return false
}

// plain tries all codes, and of each all pairs, in order.
func plain(ops []api.Op, ahead [][]bool) (code, a, b int) {
	for code := causal.Thin; code <= causal.Stale; code++ {
		for a := range ops {
			for b := range ops {
				if isBad(ops, ahead, code, a, b) {
					return code, a, b
				}
			}
		}
	}
	return causal.Fine, 0, 0
}

// 7.2 and 7.3: what is told is that of the promises' own words; Check finds nothing wrong.
func TestIsPlain(t *testing.T) {
	d := die(71)
	codes := map[int]int{}
	for range 4000 {
		ops := history(t, &d, 4+d.n(36), 1+d.n(16))
		checkForm(t, "drawn", ops...)
		ahead := plainAhead(ops)
		code, a, b := plain(ops, ahead)
		codes[code]++
		checkFinds(t, "drawn", ops, code, a, b)
		if code == causal.Thin {
			checkNobody(t, "drawn", ops...)
		} else {
			checkAhead(t, "drawn", drawn(ahead), ops...)
		}
	}
	for code := causal.Fine; code <= causal.Stale; code++ {
		if codes[code] < 100 {
			t.Errorf("too few of a kind: %v", codes)
		}
	}
}

// checkOrder asks whether an order keeps to what comes ahead.
func checkOrder(t *testing.T, ops []api.Op, order []int) {
	t.Helper()
	rows, err := causal.Ahead(ops)
	if err != nil {
		t.Fatalf("%v: %v", ops, err)
	}
	for place, late := range order {
		for _, early := range order[:place] {
			if rows[late][early] {
				t.Fatalf("%v: %d is ahead of %d, but not in %v", ops, late, early, order)
			}
		}
	}
}

// What is valid in the order of time is in the order of processes (Lamport), and that is causal.
func TestTimeProcessesCausal(t *testing.T) {
	d := die(72)
	timely, processes, fine := 0, 0, 0
	for range 3000 {
		ops := history(t, &d, 4+d.n(16), 1+d.n(8))
		byTime, err := linear.Check(api.Register, ops, api.MaxBudget)
		byProcess, fault := linear.Same(api.Register, ops, api.MaxBudget)
		if err != nil || fault != nil || byTime.Code == linear.Unknown || byProcess.Code == linear.Unknown {
			t.Fatalf("%v: %v, %v, %v, %v", ops, byTime, err, byProcess, fault)
		}
		code, a, b, err := causal.Finds(ops)
		switch {
		case err != nil:
			t.Fatalf("%v: %v", ops, err)
		case byTime.Code == linear.Valid:
			timely++
			checkOrder(t, ops, byTime.Order)
			if byProcess.Code != linear.Valid {
				t.Fatalf("%v: %v, but %v", ops, byTime, byProcess)
			}
		case byProcess.Code == linear.Valid:
			processes++
		case code == causal.Fine:
			fine++
		}
		if byProcess.Code != linear.Valid {
			continue
		}
		checkOrder(t, ops, byProcess.Order)
		if code != causal.Fine {
			t.Fatalf("%v: %v, but %d, %d, %d", ops, byProcess, code, a, b)
		}
	}
	if timely < 300 || processes < 100 || fine < 10 {
		t.Errorf("too few of a kind: %d in the order of time, %d in that of processes alone, %d causal alone", timely, processes, fine)
	}
}

// Ops that take place between their call and their end are causal.
func TestRightIsFine(t *testing.T) {
	d := die(73)
	for range 1000 {
		checkNone(t, "drawn", history(t, &d, api.MaxOps, 1<<30)...)
	}
}
