package queue_test

import (
	"slices"
	"testing"

	"testimony/api"
	"testimony/event"
	"testimony/linear"
	"testimony/queue"
)

// die: numbers that look drawn, the same each time.
type die uint64

func (d *die) n(most int) int {
	*d = *d*6364136223846793005 + 1442695040888963407
	return int(uint64(*d>>33) % uint64(most))
}

// Where a process is with its op.
const (
	free = iota
	called
	took
	wheres
)

// valueOf is what that push pushes. The values don't rise, and none is -1.
func valueOf(push int) int { return (push%2*2 - 1) * (2 + push*37%101) }

// bench is a queue, and processes that are at it.
type bench struct {
	*die
	wrong  int // of how many pops one is told something else
	pushes int
	in     []int // what is in the queue
	out    []int // what was told ahead of being in it
	at     [4]int
	busy   [4]event.Event
	seen   []event.Event
}

// step takes a process on: it calls, its op takes place, it comes to its end.
func (b *bench) step(p int) {
	e := &b.busy[p]
	switch b.at[p] {
	case free:
		*e = event.Event{Proc: p, Type: event.Invoke, Key: 2, Kind: api.Pop}
		if b.n(5) < 3 {
			e.Kind, e.A = api.Push, valueOf(b.pushes)
			b.pushes++
		}
		b.seen = append(b.seen, *e)
	case called:
		b.take(e)
	case took:
		b.seen = append(b.seen, *e)
	}
	b.at[p] = (b.at[p] + 1) % wheres
}

// take lets an op take place; what finds nothing in the queue did not.
func (b *bench) take(e *event.Event) {
	e.Type = event.Ok
	switch {
	case e.Kind == api.Push:
		if !slices.Contains(b.out, e.A) {
			b.in = append(b.in, e.A)
		}
	case b.n(b.wrong) == 0:
		e.Result = b.wrongly()
	case len(b.in) > 0:
		e.Result, b.in = b.in[0], b.in[1:]
	default:
		e.Type = event.Fail
	}
}

// wrongly is what a pop is told that is not the first one in the queue: any value, that of the next push, or the second one in the queue.
func (b *bench) wrongly() int {
	how := b.n(5)
	if how == 0 {
		return valueOf(b.n(b.pushes + 1))
	}
	if how < 3 || len(b.in) < 2 {
		b.out = append(b.out, valueOf(b.pushes))
		return valueOf(b.pushes)
	}
	second := b.in[1]
	b.in = slices.Delete(b.in, 1, 2)
	return second
}

// history is at most that many ops, all at their ends, that take place in between.
func history(t *testing.T, d *die, most, wrong int) []api.Op {
	t.Helper()
	b := bench{die: d, wrong: wrong}
	for range d.n(max(wheres*most-8, 1)) {
		b.step(d.n(len(b.at)))
	}
	for p := range b.at {
		for b.at[p] != free {
			b.step(p)
		}
	}
	ops, err := event.Ops(b.seen)
	if err != nil || len(ops) > most {
		t.Fatalf("%d ops, %v", len(ops), err)
	}
	return ops
}

// popOf is the number of a value's first pop, or -1.
func popOf(ops []api.Op, value int) int {
	return slices.IndexFunc(ops, func(o api.Op) bool { return o.Kind == api.Pop && o.Result == value })
}

// isBad is promise 6.2 word by word: whether these two ops are what can't be by that code.
func isBad(ops []api.Op, code, a, b int) bool {
	x, y := ops[a], ops[b]
	switch code {
	case queue.Thin:
		pushed := slices.ContainsFunc(ops, func(o api.Op) bool { return o.Kind == api.Push && o.A == x.Result })
		return a == b && x.Kind == api.Pop && !pushed
	case queue.Twice:
		return a != b && x.Kind == api.Pop && y.Kind == api.Pop && x.Result == y.Result
	case queue.Early:
		return x.Kind == api.Push && y.Kind == api.Pop && y.Result == x.A && event.Before(y, x)
	}
	if x.Kind != api.Push || y.Kind != api.Push || !event.Before(x, y) {
		return false
	}
	first, second := popOf(ops, x.A), popOf(ops, y.A)
	return second >= 0 && (first < 0 || event.Before(ops[second], ops[first]))
}

// plain tries all codes, and of each all pairs, in order.
func plain(ops []api.Op) (code, a, b int) {
	for code := queue.Thin; code <= queue.Crossed; code++ {
		for a := range ops {
			for b := range ops {
				if isBad(ops, code, a, b) {
					return code, a, b
				}
			}
		}
	}
	return queue.Fine, 0, 0
}

// 6.2: what is told is that of the promise's own words; Check finds nothing wrong.
func TestIsPlain(t *testing.T) {
	d := die(61)
	codes := map[int]int{}
	for range 5000 {
		ops := history(t, &d, 4+d.n(36), 2+d.n(12))
		checkForm(t, "drawn", ops...)
		code, a, b := plain(ops)
		codes[code]++
		checkFinds(t, "drawn", ops, code, a, b)
	}
	for code := queue.Fine; code <= queue.Crossed; code++ {
		if codes[code] < 100 {
			t.Errorf("too few of a kind: %v", codes)
		}
	}
}

// A queue is valid just if nothing bad is found.
func TestFineJustIfOrder(t *testing.T) {
	d := die(62)
	codes, verdicts := map[int]int{}, map[int]int{}
	for range 4000 {
		ops := history(t, &d, 4+d.n(30), 2+d.n(12))
		v, err := linear.Check(api.Queue, ops, api.MaxBudget)
		if err != nil || v.Code == linear.Unknown {
			t.Fatalf("%v: %v, %v", ops, v, err)
		}
		code, a, b, err := queue.Finds(ops)
		if (code == queue.Fine) != (v.Code == linear.Valid) || err != nil {
			t.Fatalf("%v: %d, %d, %d, %v, but %v", ops, code, a, b, err, v)
		}
		codes[code]++
		verdicts[v.Code]++
	}
	if verdicts[linear.Valid] < 300 || verdicts[linear.Invalid] < 300 || codes[queue.Crossed] < 100 {
		t.Errorf("too few of a kind: %v, %v", verdicts, codes)
	}
}

// Ops that take place between their call and their end are fine.
func TestRightIsFine(t *testing.T) {
	d := die(63)
	for range 1000 {
		checkNone(t, "drawn", history(t, &d, api.MaxOps, 1<<30)...)
	}
}
