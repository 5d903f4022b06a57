package local_test

import (
	"slices"
	"testing"

	"testimony/api"
	"testimony/event"
	"testimony/linear"
	"testimony/local"
	"testimony/model"
)

// die: numbers that look drawn, the same each time.
type die uint64

func (d *die) n(most int) int {
	*d = *d*6364136223846793005 + 1442695040888963407
	return int(uint64(*d>>33) % uint64(most))
}

func kindsOf(object int) []int {
	var l []int
	for kind := api.Read; kind <= api.Unlock; kind++ {
		if model.Knows(object, kind) {
			l = append(l, kind)
		}
	}
	return l
}

// history is ops of some processes, each of which takes place at its end (or is not known); some are told wrongly.
func history(t *testing.T, d *die, object, keys, steps int) []api.Op {
	t.Helper()
	var l []event.Event
	busy, gone, states := map[int]event.Event{}, map[int]bool{}, map[int][]int{}
	for key := range keys {
		states[key] = model.Start(object)
	}
	kinds := kindsOf(object)
	for range steps {
		p := d.n(4)
		e, at := busy[p]
		switch {
		case gone[p]:
		case !at:
			e = event.Event{Proc: p, Type: event.Invoke, Key: d.n(keys), Kind: kinds[d.n(len(kinds))], A: d.n(3), B: d.n(3)}
			busy[p] = e
			l = append(l, e)
		default:
			next, result, ok := model.Step(object, states[e.Key], e.Kind, e.A, e.B)
			e.Type, gone[p] = event.Info, true
			if ok && d.n(10) > 0 {
				e.Type, gone[p], e.Result, states[e.Key] = event.Ok, false, result, next
			}
			if e.Type == event.Ok && d.n(12) == 0 {
				e.Result = d.n(3) - 1
			}
			delete(busy, p)
			l = append(l, e)
		}
	}
	ops, err := event.Ops(l)
	if err != nil {
		t.Fatal(err)
	}
	return ops
}

// plain is promise 4.2 word by word, where nothing is wrong: one key behind the other.
func plain(t *testing.T, object int, ops []api.Op, budget int) local.Verdict {
	t.Helper()
	v := all()
	least := map[int]int{linear.Invalid: -1, linear.Unknown: -1}
	for key := api.MaxKeys - 1; key >= 0; key-- {
		var part []api.Op
		var numbers []int
		for n, op := range ops {
			if op.Key == key {
				part, numbers = append(part, op), append(numbers, n)
			}
		}
		one, err := linear.Check(object, part, budget)
		if err != nil {
			t.Fatal(err)
		}
		least[one.Code] = key
		for _, n := range one.Order {
			v.Orders[key] = append(v.Orders[key], numbers[n])
		}
	}
	switch {
	case least[linear.Invalid] >= 0:
		return bad(least[linear.Invalid])
	case least[linear.Unknown] >= 0:
		return unsure(least[linear.Unknown])
	}
	return v
}

// 4.2: what is told is that of the promise's own words, whatever the number of workers.
func TestCheckIsPlain(t *testing.T) {
	d := die(21)
	codes := map[int]int{}
	for range 2000 {
		object, keys := api.Register+d.n(api.Mutex), 1+d.n(api.MaxKeys)
		ops := history(t, &d, object, keys, d.n(60))
		budget := []int{5000, d.n(8)}[d.n(2)]
		want := plain(t, object, ops, budget)
		codes[want.Code]++
		for _, workers := range []int{1, 2 + d.n(62), 64} {
			if got, err := local.Check(object, ops, budget, workers); err != nil || !sameVerdict(got, want) {
				t.Fatalf("object %d, %v, budget %d, workers %d: %v, %v, not %v", object, ops, budget, workers, got, err, want)
			}
		}
	}
	for code := linear.Valid; code <= linear.Unknown; code++ {
		if codes[code] < 200 {
			t.Errorf("too few of a kind: %v", codes)
		}
	}
}

// All keys together are valid just if each is (Herlihy and Wing).
func TestTogetherJustIfEach(t *testing.T) {
	d := die(22)
	codes := map[int]int{}
	for range 1500 {
		object := api.Register + d.n(api.Mutex)
		ops := history(t, &d, object, 1+d.n(4), d.n(40))
		together, err := linear.Check(object, ops, api.MaxBudget)
		if err != nil {
			t.Fatal(err)
		}
		each, err := local.Check(object, ops, api.MaxBudget, 1+d.n(64))
		if err != nil || each.Code != together.Code {
			t.Fatalf("object %d, %v: %v, %v, but together %v", object, ops, each, err, together)
		}
		codes[each.Code]++
	}
	if codes[linear.Valid] < 200 || codes[linear.Invalid] < 200 {
		t.Errorf("too few of a kind: %v", codes)
	}
}

// Each key's order shows that its ops can have taken place; it has none of another key.
func TestOrdersShow(t *testing.T) {
	d := die(23)
	for range 1000 {
		object := api.Register + d.n(api.Mutex)
		ops := history(t, &d, object, 1+d.n(api.MaxKeys), d.n(60))
		v, err := local.Check(object, ops, api.MaxBudget, 1+d.n(64))
		if err != nil {
			t.Fatal(err)
		}
		if v.Code != linear.Valid {
			continue
		}
		parts, numbers := local.Split(ops)
		for key, order := range v.Orders {
			own := make([]int, len(order))
			for place, n := range order {
				own[place] = slices.Index(numbers[key], n)
			}
			if ok, err := linear.Shows(object, parts[key], own); !ok || err != nil {
				t.Fatalf("object %d, %v, key %d: %v shows nothing: %v", object, ops, key, order, err)
			}
		}
	}
}
