package record_test

import (
	"math"
	"slices"
	"testing"

	"testimony/api"
	"testimony/event"
	"testimony/record"
)

// named are events that are told apart by A; some may not be, which Merge does not ask.
func named(l ...int) []event.Event {
	out := make([]event.Event, len(l))
	for i, a := range l {
		out[i].A = a
	}
	return out
}

// striped is a stripe whose events are named by their tickets.
func striped(tickets ...int) record.Stripe {
	return record.Stripe{Tickets: tickets, Events: named(tickets...)}
}

// bare is a stripe of so many tickets more than events, or fewer.
func bare(events int, tickets ...int) record.Stripe {
	return record.Stripe{Tickets: tickets, Events: make([]event.Event, events)}
}

// Promise 18.3.
func TestMergeByHand(t *testing.T) {
	for _, c := range []struct {
		name  string
		given []record.Stripe
		want  []int
		err   api.Errno
	}{
		{"none", nil, nil, api.OK},
		{"an empty one", []record.Stripe{{}}, nil, api.OK},
		{"one", []record.Stripe{striped(3, 5, 9)}, []int{3, 5, 9}, api.OK},
		{"two in turn", []record.Stripe{striped(0, 2, 4), striped(1, 3, 5)}, []int{0, 1, 2, 3, 4, 5}, api.OK},
		{"the later one first", []record.Stripe{striped(10, 11), {}, striped(-7, 1)}, []int{-7, 1, 10, 11}, api.OK},
		{"as far as ints go", []record.Stripe{striped(0, math.MaxInt), striped(math.MinInt, 1)}, []int{math.MinInt, 0, 1, math.MaxInt}, api.OK},
		{"a ticket too few", []record.Stripe{bare(2, 1)}, nil, api.ErrForm},
		{"an event too few", []record.Stripe{bare(1, 1, 2)}, nil, api.ErrForm},
		{"events alone", []record.Stripe{bare(1)}, nil, api.ErrForm},
		{"tickets alone", []record.Stripe{bare(0, 1)}, nil, api.ErrForm},
		{"they fall", []record.Stripe{striped(2, 1)}, nil, api.ErrOrder},
		{"they fall at the end", []record.Stripe{striped(1, 2, 4, 3)}, nil, api.ErrOrder},
		{"they fall as far as ints go", []record.Stripe{striped(math.MaxInt, math.MinInt)}, nil, api.ErrOrder},
		{"they stay", []record.Stripe{striped(1, 1)}, nil, api.ErrOrder},
		{"two are the same", []record.Stripe{striped(1, 2), striped(2, 3)}, nil, api.ErrTwice},
		{"two are the same, far apart", []record.Stripe{striped(1, 9), striped(2, 3), striped(0, 9, 10)}, nil, api.ErrTwice},
		{"form ahead of order", []record.Stripe{bare(1, 2, 1)}, nil, api.ErrForm},
		{"the first one's order", []record.Stripe{striped(2, 1), bare(1)}, nil, api.ErrOrder},
		{"the first one's form", []record.Stripe{bare(1), striped(2, 1)}, nil, api.ErrForm},
		{"form ahead of twice", []record.Stripe{striped(1), striped(1), bare(1)}, nil, api.ErrForm},
		{"order ahead of twice", []record.Stripe{striped(1), striped(1), striped(2, 1)}, nil, api.ErrOrder},
	} {
		t.Run(c.name, func(t *testing.T) {
			l, err := record.Merge(c.given)
			if api.Tell(err) != c.err || c.err != api.OK && (err != error(c.err) || l != nil) {
				t.Errorf("%v, %#v, not %v", l, err, c.err)
			}
			if !slices.Equal(l, named(c.want...)) {
				t.Errorf("%v, not those of %v", l, c.want)
			}
		})
	}
}

// plainMerge is 18.3 word by word: again and again the event of the least ticket that is left.
func plainMerge(l []record.Stripe) ([]event.Event, api.Errno) {
	count := map[int]int{}
	for _, s := range l {
		if len(s.Tickets) != len(s.Events) {
			return nil, api.ErrForm
		}
		for i := range s.Tickets {
			count[s.Tickets[i]]++
			if i > 0 && s.Tickets[i] <= s.Tickets[i-1] {
				return nil, api.ErrOrder
			}
		}
	}
	for _, n := range count {
		if n > 1 {
			return nil, api.ErrTwice
		}
	}
	var out []event.Event
	for ; len(count) > 0; delete(count, leastKey(count)) {
		for _, s := range l {
			if i := slices.Index(s.Tickets, leastKey(count)); i >= 0 {
				out = append(out, s.Events[i])
			}
		}
	}
	return out, api.OK
}

func leastKey(m map[int]int) int {
	least := math.MaxInt
	for k := range m {
		least = min(least, k)
	}
	return least
}

// drawStripes are stripes, most of whose tickets rise.
func drawStripes(d *die) []record.Stripe {
	l := make([]record.Stripe, d.n(5))
	at := -20
	for range d.n(30) {
		if len(l) == 0 {
			break
		}
		s := &l[d.n(len(l))]
		if d.n(40) > 0 {
			at += 1 + d.n(3)
		} else {
			at -= d.n(3)
		}
		s.Tickets, s.Events = append(s.Tickets, at), append(s.Events, drawEvent(d))
	}
	if len(l) > 0 && d.n(15) == 0 {
		s := &l[d.n(len(l))]
		s.Events = append(s.Events, event.Event{})
	}
	return l
}

// Promise 18.3: against its words done plainly.
func TestMergeOfDrawnStripes(t *testing.T) {
	d := die(6)
	var seen [api.ErrOrder + 1]int
	for range 4000 {
		given := drawStripes(&d)
		want, e := plainMerge(given)
		l, err := record.Merge(given)
		if !slices.Equal(l, want) || api.Tell(err) != e {
			t.Fatalf("%v: %v, %v, not %v, %v", given, l, err, want, e)
		}
		seen[e]++
	}
	for _, e := range []api.Errno{api.OK, api.ErrForm, api.ErrOrder, api.ErrTwice} {
		if seen[e] < 100 {
			t.Error("too few of a kind", e, seen[e])
		}
	}
}

// Rule P4.
func TestMergeSharesNothing(t *testing.T) {
	given := []record.Stripe{striped(5, 6), striped(1, 2)}
	l, _ := record.Merge(given)
	if !slices.Equal(given[0].Tickets, []int{5, 6}) || !slices.Equal(given[0].Events, named(5, 6)) || !slices.Equal(given[1].Tickets, []int{1, 2}) {
		t.Error("Merge wrote into what it was given", given)
	}
	clear(l)
	if again, _ := record.Merge(given); !slices.Equal(again, named(1, 2, 5, 6)) {
		t.Error("an answer lies in memory that is used again", again)
	}
	one := []record.Stripe{striped(1, 2)}
	l, _ = record.Merge(one)
	clear(l)
	if !slices.Equal(one[0].Events, named(1, 2)) {
		t.Error("Merge hands out what it was given")
	}
}
