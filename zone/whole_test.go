package zone_test

import (
	"slices"
	"testing"

	"testimony/api"
	"testimony/event"
	"testimony/linear"
	"testimony/zone"
)

// die: numbers that look drawn, the same each time.
type die uint64

func (d *die) n(most int) int {
	*d = *d*6364136223846793005 + 1442695040888963407
	return int(uint64(*d>>33) % uint64(most))
}

// Where a process is with its op.
const (
	free = iota
	called
	took
	wheres
)

// valueOf is what that write writes; 0: what is there at first. The values don't rise.
func valueOf(write int) int { return (write%2*2 - 1) * (write * 37 % 101) }

// bench is a register, and processes that are at it.
type bench struct {
	*die
	wrong    int // of how many reads one is told something else
	register int
	writes   int
	at       [4]int
	busy     [4]event.Event
	seen     []event.Event
}

// step takes a process on: it calls, its op takes place, it comes to its end.
func (b *bench) step(p int) {
	e := &b.busy[p]
	switch b.at[p] {
	case free:
		*e = event.Event{Proc: p, Type: event.Invoke, Key: 2, Kind: api.Read}
		if b.n(5) < 2 {
			b.writes++
			e.Kind, e.A = api.Write, valueOf(b.writes)
		}
		b.seen = append(b.seen, *e)
	case called:
		e.Type = event.Ok
		if e.Kind == api.Write {
			b.register = e.A
		} else if e.Result = b.register; b.n(b.wrong) == 0 {
			e.Result = valueOf(b.n(b.writes + 2)) // perhaps that of the next write
		}
	case took:
		b.seen = append(b.seen, *e)
	}
	b.at[p] = (b.at[p] + 1) % wheres
}

// history is at most that many ops, all at their ends, that take place in between.
func history(t *testing.T, d *die, most, wrong int) []api.Op {
	t.Helper()
	b := bench{die: d, wrong: wrong}
	for range d.n(max(wheres*most-8, 1)) {
		b.step(d.n(len(b.at)))
	}
	for p := range b.at {
		for b.at[p] != free {
			b.step(p)
		}
	}
	ops, err := event.Ops(b.seen)
	if err != nil || len(ops) > most {
		t.Fatalf("%d ops, %v", len(ops), err)
	}
	return ops
}

// hits are the ops that write or read a value; 0 is written by one that the list has not.
func hits(ops []api.Op, value int) []api.Op {
	var l []api.Op
	if value == 0 {
		l = append(l, write(0, 0, -2, -1))
	}
	for _, op := range ops {
		if op.Kind == api.Write && op.A == value || op.Kind == api.Read && op.Result == value {
			l = append(l, op)
		}
	}
	return l
}

// plainNone says, by promise 5.2's words, whether what a read tells can't have been read.
func plainNone(ops []api.Op) bool {
	for _, op := range ops {
		if op.Kind != api.Read {
			continue
		}
		ok := false
		for _, other := range hits(ops, op.Result) {
			ok = ok || other.Kind == api.Write && op.Return >= other.Call
		}
		if !ok {
			return true
		}
	}
	return false
}

// plainZones is promise 5.2 word by word, where there is no error.
func plainZones(ops []api.Op) []zone.Zone {
	values := []int{0}
	for _, op := range ops {
		if op.Kind == api.Write {
			values = append(values, op.A)
		}
	}
	var zones []zone.Zone
	for _, value := range values {
		l := hits(ops, value)
		e, b := l[0].Return, l[0].Call
		for _, op := range l {
			e, b = min(e, op.Return), max(b, op.Call)
		}
		z := back(value, b, e)
		if e < b {
			z = forward(value, e, b)
		}
		place := 0
		for place < len(zones) && zones[place].From < z.From {
			place++
		}
		zones = slices.Insert(zones, place, z)
	}
	return zones
}

// plainFits is promise 5.3 word by word, of all pairs.
func plainFits(zones []zone.Zone) (ok bool, a, b int) {
	for i, first := range zones {
		for j, other := range zones {
			over := other.Forward && j > i && other.From < first.To
			within := !other.Forward && other.From > first.From && other.To < first.To
			if first.Forward && (over || within) {
				return false, first.Value, other.Value
			}
		}
	}
	return true, 0, 0
}

// 5.2 and 5.3: what is told is that of the promises' own words; Check finds nothing wrong.
func TestIsPlain(t *testing.T) {
	d := die(51)
	fits, clashes, none := 0, 0, 0
	for range 4000 {
		ops := history(t, &d, 4+d.n(36), 3+d.n(20))
		checkFine(t, "drawn", ops...)
		if plainNone(ops) {
			none++
			checkNoZones(t, "drawn", ops, api.ErrNone)
			continue
		}
		zones := plainZones(ops)
		checkZones(t, "drawn", ops, zones...)
		if ok, a, b := plainFits(zones); ok {
			fits++
			checkFits(t, "drawn", ops...)
		} else {
			clashes++
			checkClash(t, "drawn", a, b, ops...)
		}
	}
	if fits < 400 || clashes < 400 || none < 100 {
		t.Errorf("too few of a kind: %d fit, %d clash, %d read nothing", fits, clashes, none)
	}
}

// Zones fit just if the search finds an order (Gibbons and Korach); what reads nothing has none either.
func TestFitsJustIfOrder(t *testing.T) {
	d := die(52)
	codes := map[int]int{}
	for range 2500 {
		ops := history(t, &d, 4+d.n(26), 3+d.n(20))
		v, err := linear.Check(api.Register, ops, api.MaxBudget)
		if err != nil || v.Code == linear.Unknown {
			t.Fatalf("%v: %v, %v", ops, v, err)
		}
		codes[v.Code]++
		ok, a, b, err := zone.Fits(ops)
		if ok != (v.Code == linear.Valid) || err != nil && err != error(api.ErrNone) {
			t.Fatalf("%v: %v, %d, %d, %v, but %v", ops, ok, a, b, err, v)
		}
	}
	if codes[linear.Valid] < 300 || codes[linear.Invalid] < 300 {
		t.Errorf("too few of a kind: %v", codes)
	}
}

// Ops that take place between their call and their end fit.
func TestRightFits(t *testing.T) {
	d := die(53)
	for range 1000 {
		checkFits(t, "drawn", history(t, &d, api.MaxOps, 1<<30)...)
	}
}

// The two values alone don't fit either: what else there is has no part in it.
func TestClashAlone(t *testing.T) {
	d := die(54)
	clashes := 0
	for range 2000 {
		ops := history(t, &d, 4+d.n(36), 4)
		ok, a, b, err := zone.Fits(ops)
		if ok || err != nil {
			continue
		}
		clashes++
		alone := slices.DeleteFunc(slices.Clone(ops), func(o api.Op) bool {
			value := o.A + o.Result
			return value != a && value != b
		})
		checkClash(t, "alone", a, b, alone...)
	}
	if clashes < 200 {
		t.Errorf("too few clashes: %d", clashes)
	}
}
