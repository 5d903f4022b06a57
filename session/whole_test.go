package session_test

import (
	"slices"
	"testing"

	"testimony/api"
	"testimony/event"
	"testimony/linear"
	"testimony/session"
)

// die: numbers that look drawn, the same each time.
type die uint64

func (d *die) n(most int) int {
	*d = *d*6364136223846793005 + 1442695040888963407
	return int(uint64(*d>>33) % uint64(most))
}

// Where a process is with its op.
const (
	free = iota
	called
	took
	wheres
)

// valueOf is what that write of a key writes; 0: what is there at first. The values don't rise, and are the same of each key.
func valueOf(write int) int { return (write%2*2 - 1) * (write * 37 % 101) }

// bench is some registers, and processes that are at them.
type bench struct {
	*die
	keys, wrong int              // of how many reads one is told something else
	done        session.Versions // of each key what was written, in the order in which that took place
	writes      [api.MaxKeys]int
	at          [4]int
	busy        [4]event.Event
	seen        []event.Event
}

// step takes a process on: it calls, its op takes place, it comes to its end.
func (b *bench) step(p int) {
	e := &b.busy[p]
	switch b.at[p] {
	case free:
		*e = event.Event{Proc: p, Type: event.Invoke, Key: b.n(b.keys), Kind: api.Read}
		if b.n(2) == 0 {
			b.writes[e.Key]++
			e.Kind, e.A = api.Write, valueOf(b.writes[e.Key])
		}
		b.seen = append(b.seen, *e)
	case called:
		b.take(e)
	case took:
		b.seen = append(b.seen, *e)
	}
	b.at[p] = (b.at[p] + 1) % wheres
}

// take lets an op take place.
func (b *bench) take(e *event.Event) {
	list := b.done[e.Key]
	e.Type = event.Ok
	switch {
	case e.Kind == api.Write:
		b.done[e.Key] = append(list, e.A)
	case b.n(b.wrong) == 0:
		e.Result = valueOf(b.n(b.writes[e.Key] + 1))
	case len(list) > 0:
		e.Result = list[len(list)-1]
	}
}

// history is at most that many ops, all at their ends, that take place in between, and the versions that they make.
func history(t *testing.T, d *die, most, wrong int) ([]api.Op, session.Versions) {
	t.Helper()
	b := bench{die: d, keys: 1 + d.n(3), wrong: wrong, done: versions()}
	for range d.n(max(wheres*most-8, 1)) {
		b.step(d.n(len(b.at)))
	}
	for p := range b.at {
		for b.at[p] != free {
			b.step(p)
		}
	}
	ops, err := event.Ops(b.seen)
	if err != nil || len(ops) > most {
		t.Fatalf("%d ops, %v", len(ops), err)
	}
	return ops, b.done
}

// mixed are the versions in another order: that many times two of a list change places.
func mixed(d *die, v session.Versions, times int) session.Versions {
	for range times {
		if list := v[d.n(3)]; len(list) > 0 {
			i, j := d.n(len(list)), d.n(len(list))
			list[i], list[j] = list[j], list[i]
		}
	}
	return v
}

// isOlder says whether what b writes or reads is older than what a does.
func isOlder(v session.Versions, b, a api.Op) bool {
	x, y := a.A+a.Result, b.A+b.Result // one of them is 0
	if y == 0 || x == 0 {
		return y == 0 && x != 0
	}
	list := v[a.Key]
	return slices.Index(list, y) < slices.Index(list, x)
}

// plain is promise 8.2 word by word.
func plain(ops []api.Op, v session.Versions, earlier, later int) [2]int {
	for l, b := range ops {
		for e, a := range ops {
			ofOne := a.Proc == b.Proc && a.Key == b.Key && a.Call < b.Call
			if ofOne && a.Kind == earlier && b.Kind == later && isOlder(v, b, a) {
				return [2]int{e, l}
			}
		}
	}
	return [2]int{-1, -1}
}

func plainAll(ops []api.Op, v session.Versions) [][2]int {
	return [][2]int{
		session.OwnWrites:  plain(ops, v, api.Write, api.Read),
		session.Reads:      plain(ops, v, api.Read, api.Read),
		session.Writes:     plain(ops, v, api.Write, api.Write),
		session.AfterReads: plain(ops, v, api.Read, api.Write),
	}
}

// 8.2: what is told is that of the promise's own words; Check finds nothing wrong.
func TestIsPlain(t *testing.T) {
	d := die(81)
	broken := [4]int{}
	whole := 0
	for range 5000 {
		ops, v := history(t, &d, 4+d.n(36), 1+d.n(30))
		v = mixed(&d, v, d.n(4))
		checkForm(t, "drawn", v, ops...)
		want := plainAll(ops, v)
		checkPairs(t, "drawn", v, want, ops...)
		if slices.Equal(want, pairs(nil)) {
			whole++
		}
		for name, pair := range want {
			if pair[0] >= 0 {
				broken[name]++
			}
		}
	}
	if slices.Min(broken[:]) < 300 || whole < 300 {
		t.Errorf("too few of a kind: %v broken, %d whole", broken, whole)
	}
}

// versionsOf are those that an order of the ops makes.
func versionsOf(ops []api.Op, order []int) session.Versions {
	v := versions()
	for _, n := range order {
		if op := ops[n]; op.Kind == api.Write {
			v[op.Key] = append(v[op.Key], op.A)
		}
	}
	return v
}

// In an order of time each process may rely on all four; and in one of processes.
func TestOrderIsWhole(t *testing.T) {
	d := die(82)
	timely, processes := 0, 0
	for range 2500 {
		ops, _ := history(t, &d, 4+d.n(16), 1+d.n(8))
		byTime, err := linear.Check(api.Register, ops, api.MaxBudget)
		byProcess, fault := linear.Same(api.Register, ops, api.MaxBudget)
		if err != nil || fault != nil {
			t.Fatalf("%v: %v, %v", ops, err, fault)
		}
		if byTime.Code == linear.Valid {
			timely++
			checkWhole(t, "in the order of time", versionsOf(ops, byTime.Order), ops...)
		}
		if byProcess.Code == linear.Valid {
			processes++
			checkWhole(t, "in the order of processes", versionsOf(ops, byProcess.Order), ops...)
		}
	}
	if timely < 300 || processes < timely+50 {
		t.Errorf("too few of a kind: %d in the order of time, %d in that of processes", timely, processes)
	}
}

// Ops that take place between their call and their end make versions on which each process may rely.
func TestRightIsWhole(t *testing.T) {
	d := die(83)
	for range 1000 {
		ops, v := history(t, &d, api.MaxOps, 1<<30)
		checkWhole(t, "drawn", v, ops...)
	}
}
