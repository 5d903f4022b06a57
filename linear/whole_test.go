package linear_test

import (
	"fmt"
	"slices"
	"testing"

	"testimony/api"
	"testimony/event"
	"testimony/linear"
	"testimony/model"
)

// die: numbers that look drawn, the same each time.
type die uint64

func (d *die) n(most int) int {
	*d = *d*6364136223846793005 + 1442695040888963407
	return int(uint64(*d>>33) % uint64(most))
}

func kindsOf(object int) []int {
	var l []int
	for kind := api.Read; kind <= api.Unlock; kind++ {
		if model.Knows(object, kind) {
			l = append(l, kind)
		}
	}
	return l
}

// house is one in which each call takes place at some time between its two events.
type house struct {
	*die
	object  int
	objects [2][]int
	busy    map[int]event.Event
	took    map[int]bool // whether what a process is at has taken place
	gone    map[int]bool
	seen    []event.Event
}

// history is what was seen of some processes for a time; what is told is right.
func history(d *die, object, procs, steps int) []event.Event {
	h := house{die: d, object: object, busy: map[int]event.Event{}, took: map[int]bool{}, gone: map[int]bool{}}
	for key := range h.objects {
		h.objects[key] = model.Start(object)
	}
	for range steps {
		if p := d.n(procs); !h.gone[p] {
			h.turn(p)
		}
	}
	return h.seen
}

// turn lets a process begin, be served, or be told.
func (h *house) turn(p int) {
	e, at := h.busy[p]
	switch {
	case !at:
		kinds := kindsOf(h.object)
		e = event.Event{Proc: p, Type: event.Invoke, Key: h.n(2), Kind: kinds[h.n(len(kinds))], A: h.n(3), B: h.n(3)}
		h.busy[p], h.took[p] = e, false
		h.seen = append(h.seen, e)
	case !h.took[p]:
		next, result, ok := model.Step(h.object, h.objects[e.Key], e.Kind, e.A, e.B)
		if ok {
			h.objects[e.Key], e.Result = next, result
			h.busy[p], h.took[p] = e, true
		}
	default:
		delete(h.busy, p)
		e.Type = event.Ok
		if h.n(12) == 0 {
			e.Type, e.Result = event.Info, 0
			h.gone[p] = true
		}
		h.seen = append(h.seen, e)
	}
}

// spoil changes what some were told, so that not all histories are right.
func spoil(d *die, l []event.Event) []event.Event {
	l = slices.Clone(l)
	for i := range l {
		if l[i].Type == event.Ok && d.n(6) == 0 {
			l[i].Result = d.n(4) - 1
		}
	}
	return l
}

func opsOf(t *testing.T, l []event.Event) []api.Op {
	t.Helper()
	ops, err := event.Ops(l)
	if err != nil {
		t.Fatal(err)
	}
	return ops
}

// told is a verdict where nothing may be wrong.
func told(t *testing.T, ask judge, object int, ops []api.Op, budget int) linear.Verdict {
	t.Helper()
	v, err := ask(object, ops, budget)
	if err != nil {
		t.Fatalf("object %d, %v: %v", object, ops, err)
	}
	return v
}

// plainSearch is promise 3.3 word by word.
type plainSearch struct {
	object, budget int
	ops            []api.Op
	ahead          func(a, b api.Op) bool
	entered        map[string]bool
}

func (p *plainSearch) at(done []bool, objects map[int][]int, order []int) linear.Verdict {
	if p.isOver(done) {
		return linear.Verdict{Code: linear.Valid, Order: order, Entered: len(p.entered)}
	}
	name := fmt.Sprint(done, objects)
	if p.entered[name] {
		return invalid(len(p.entered))
	}
	if len(p.entered) == p.budget {
		return unknown(len(p.entered))
	}
	p.entered[name] = true
	for i, op := range p.ops {
		if done[i] || p.isHeld(done, i) {
			continue
		}
		next, result, ok := model.Step(p.object, objects[op.Key], op.Kind, op.A, op.B)
		if !ok || op.Return != -1 && result != op.Result {
			continue
		}
		d := slices.Clone(done)
		d[i] = true
		o := map[int][]int{op.Key: next}
		for key, state := range objects {
			if key != op.Key {
				o[key] = state
			}
		}
		if v := p.at(d, o, append(slices.Clone(order), i)); v.Code != linear.Invalid {
			return v
		}
	}
	return invalid(len(p.entered))
}

func (p *plainSearch) isOver(done []bool) bool {
	for i, op := range p.ops {
		if op.Return >= 0 && !done[i] {
			return false
		}
	}
	return true
}

func (p *plainSearch) isHeld(done []bool, i int) bool {
	for j := range p.ops {
		if j != i && !done[j] && p.ahead(p.ops[j], p.ops[i]) {
			return true
		}
	}
	return false
}

func plain(object int, ops []api.Op, budget int, ahead func(a, b api.Op) bool) linear.Verdict {
	p := plainSearch{object, budget, ops, ahead, map[string]bool{}}
	objects := map[int][]int{}
	for key := range api.MaxKeys {
		objects[key] = model.Start(object)
	}
	return p.at(make([]bool, len(ops)), objects, nil)
}

func earlier(a, b api.Op) bool { return a.Proc == b.Proc && a.Call < b.Call }

// 3.3, 3.4: code, order and number of states are those of the promise's own words.
func TestSearchIsPlain(t *testing.T) {
	d := die(7)
	for range 3000 {
		object := api.Register + d.n(api.Mutex)
		ops := opsOf(t, spoil(&d, history(&d, object, 4, d.n(40))))
		budget := []int{2000, d.n(12)}[d.n(2)]
		if got, want := told(t, linear.Check, object, ops, budget), plain(object, ops, budget, event.Before); !sameVerdict(got, want) {
			t.Fatalf("Check, object %d, %v, budget %d: %v, not %v", object, ops, budget, got, want)
		}
		if got, want := told(t, linear.Same, object, ops, budget), plain(object, ops, budget, earlier); !sameVerdict(got, want) {
			t.Fatalf("Same, object %d, %v, budget %d: %v, not %v", object, ops, budget, got, want)
		}
	}
}

// What each call was told at a time between its two events is valid, and what is valid is in the order of processes, too.
func TestRightIsValid(t *testing.T) {
	d := die(8)
	for range 1000 {
		object := api.Register + d.n(api.Mutex)
		ops := opsOf(t, history(&d, object, 5, d.n(60)))
		v := told(t, linear.Check, object, ops, 50_000)
		if v.Code != linear.Valid {
			t.Fatalf("object %d, %v: %v", object, ops, v)
		}
		if ok, err := linear.Shows(object, ops, v.Order); !ok || err != nil {
			t.Fatalf("object %d, %v: %v shows nothing: %v", object, ops, v.Order, err)
		}
		if w := told(t, linear.Same, object, ops, 50_000); w.Code != linear.Valid {
			t.Fatalf("Same, object %d, %v: %v", object, ops, w)
		}
	}
}

// isShown tries each order of each choice of ops.
func isShown(object int, ops []api.Op, order []int) bool {
	if ok, _ := linear.Shows(object, ops, order); ok {
		return true
	}
	for n := range ops {
		if !slices.Contains(order, n) && isShown(object, ops, append(slices.Clone(order), n)) {
			return true
		}
	}
	return false
}

// What is valid has a witness, and what has a witness is never invalid.
func TestWitness(t *testing.T) {
	d := die(9)
	codes := map[int]int{}
	for range 600 {
		object := api.Register + d.n(api.Mutex)
		ops := opsOf(t, spoil(&d, history(&d, object, 3, d.n(16))))
		ops = ops[:min(len(ops), 5)]
		v := told(t, linear.Check, object, ops, 1000)
		codes[v.Code]++
		if isShown(object, ops, nil) != (v.Code == linear.Valid) || v.Code == linear.Unknown {
			t.Fatalf("object %d, %v: %v", object, ops, v)
		}
	}
	if codes[linear.Valid] < 50 || codes[linear.Invalid] < 50 {
		t.Errorf("too few of a kind: %v", codes)
	}
}

// A greater budget changes no verdict that is known; one that is too small enters as many as it may.
func TestGreaterBudget(t *testing.T) {
	d := die(10)
	for range 200 {
		object := api.Register + d.n(api.Mutex)
		ops := opsOf(t, spoil(&d, history(&d, object, 4, d.n(36))))
		for _, ask := range []judge{linear.Check, linear.Same} {
			most := told(t, ask, object, ops, api.MaxBudget)
			for _, budget := range []int{0, most.Entered / 2, max(most.Entered-1, 0), most.Entered, most.Entered + 1} {
				want := most
				if budget < most.Entered {
					want = unknown(budget)
				}
				if got := told(t, ask, object, ops, budget); !sameVerdict(got, want) {
					t.Fatalf("object %d, %v, budget %d: %v, not %v", object, ops, budget, got, want)
				}
			}
		}
	}
}

// What is invalid stays so, however long it goes on.
func TestInvalidStays(t *testing.T) {
	d := die(11)
	for range 300 {
		object := api.Register + d.n(api.Mutex)
		l := spoil(&d, history(&d, object, 4, d.n(40)))
		bad := false
		for end := range len(l) + 1 {
			v := told(t, linear.Check, object, opsOf(t, l[:end]), api.MaxBudget)
			if bad && v.Code != linear.Invalid {
				t.Fatalf("object %d, %v: %v", object, l[:end], v)
			}
			bad = v.Code == linear.Invalid
		}
	}
}

// What takes longer is allowed more.
func TestLonger(t *testing.T) {
	d := die(12)
	for range 500 {
		object := api.Register + d.n(api.Mutex)
		ops := opsOf(t, spoil(&d, history(&d, object, 4, d.n(36))))
		v := told(t, linear.Check, object, ops, api.MaxBudget)
		last := map[int]int{}
		for i, op := range ops {
			last[op.Proc] = i
		}
		for _, i := range last {
			if ops[i].Return >= 0 {
				ops[i].Return += 1000
			}
		}
		if w := told(t, linear.Check, object, ops, api.MaxBudget); v.Code == linear.Valid && w.Code != linear.Valid {
			t.Fatalf("object %d, %v: %v, then %v", object, ops, v, w)
		}
	}
}
