package event_test

import (
	"math"
	"math/rand"
	"slices"
	"testing"

	"testimony/api"
	"testimony/event"
)

// begins, took, failed and unknown are events of a write of a to key 1.
func begins(proc, a int) event.Event {
	return event.Event{Proc: proc, Type: event.Invoke, Key: 1, Kind: api.Write, A: a}
}

func took(proc, a, result int) event.Event {
	return event.Event{Proc: proc, Type: event.Ok, Key: 1, Kind: api.Write, A: a, Result: result}
}

func failed(proc, a int) event.Event {
	return event.Event{Proc: proc, Type: event.Fail, Key: 1, Kind: api.Write, A: a}
}

func unknown(proc, a int) event.Event {
	return event.Event{Proc: proc, Type: event.Info, Key: 1, Kind: api.Write, A: a}
}

// wrote is the op of such events.
func wrote(proc, a, result, call, end int) api.Op {
	return api.Op{Proc: proc, Key: 1, Kind: api.Write, A: a, Result: result, Call: call, Return: end}
}

// Promise 1.2: what the ops are.
func TestOps(t *testing.T) {
	cases := []struct {
		name string
		in   []event.Event
		want []api.Op
	}{
		{"none", nil, nil},
		{"one", []event.Event{begins(0, 5), took(0, 5, 7)}, []api.Op{wrote(0, 5, 7, 0, 1)}},
		{"in order of calls, not of ends",
			[]event.Event{begins(2, 1), begins(1, 2), begins(0, 3), took(0, 3, 0), took(1, 2, 0), took(2, 1, 0)},
			[]api.Op{wrote(2, 1, 0, 0, 5), wrote(1, 2, 0, 1, 4), wrote(0, 3, 0, 2, 3)}},
		{"failed is left out",
			[]event.Event{begins(0, 1), begins(1, 2), failed(0, 1), took(1, 2, 0)},
			[]api.Op{wrote(1, 2, 0, 1, 3)}},
		{"failed and anew",
			[]event.Event{begins(0, 1), failed(0, 1), begins(0, 2), took(0, 2, 9)},
			[]api.Op{wrote(0, 2, 9, 2, 3)}},
		{"all failed", []event.Event{begins(0, 1), failed(0, 1)}, nil},
		{"not known", []event.Event{begins(0, 1), unknown(0, 1)}, []api.Op{wrote(0, 1, 0, 0, -1)}},
		{"without an end", []event.Event{begins(3, 1)}, []api.Op{wrote(3, 1, 0, 0, -1)}},
		{"not known of one, others go on",
			[]event.Event{begins(0, 1), unknown(0, 1), begins(1, 2), took(1, 2, 3), begins(1, 4)},
			[]api.Op{wrote(0, 1, 0, 0, -1), wrote(1, 2, 3, 2, 3), wrote(1, 4, 0, 4, -1)}},
		{"not known ends later than one that began behind it",
			[]event.Event{begins(0, 1), begins(1, 2), took(1, 2, 0), unknown(0, 1)},
			[]api.Op{wrote(0, 1, 0, 0, -1), wrote(1, 2, 0, 1, 2)}},
		{"the same end and beginning again",
			[]event.Event{begins(0, 1), took(0, 1, 0), begins(0, 1), took(0, 1, 0)},
			[]api.Op{wrote(0, 1, 0, 0, 1), wrote(0, 1, 0, 2, 3)}},
	}
	for _, c := range cases {
		t.Run(c.name, func(t *testing.T) {
			got, err := event.Ops(c.in)
			wantError(t, err, api.OK, nowhere)
			if !slices.Equal(got, c.want) {
				t.Errorf("%v, not %v", got, c.want)
			}
		})
	}
}

// Promise 1.2: every part of an event comes into its op.
func TestOpsKeepsAllParts(t *testing.T) {
	e := event.Event{Proc: 6, Type: event.Invoke, Key: 5, Kind: api.Swap, A: -3, B: 4}
	end := e
	end.Type, end.Result = event.Ok, -1
	got, err := event.Ops([]event.Event{e, end})
	wantError(t, err, api.OK, nowhere)
	want := api.Op{Proc: 6, Key: 5, Kind: api.Swap, A: -3, B: 4, Result: -1, Call: 0, Return: 1}
	if len(got) != 1 || got[0] != want {
		t.Errorf("%v, not %v", got, want)
	}
}

// Promise 1.2: what is wrong, and where.
func TestOpsErrors(t *testing.T) {
	other := func(change func(*event.Event)) []event.Event {
		e := took(0, 1, 0)
		change(&e)
		return []event.Event{begins(0, 1), e}
	}
	cases := []struct {
		name  string
		in    []event.Event
		want  api.Errno
		place int
	}{
		{"what Check says", []event.Event{begins(0, 1), {Proc: 8, Type: event.Invoke, Kind: api.Read}}, api.ErrRange, 1},
		{"what Check says of a type", []event.Event{{Kind: api.Read}}, api.ErrArg, 0},
		{"Check ahead of ErrState", []event.Event{begins(0, 1), {Type: event.Invoke}}, api.ErrArg, 1},
		{"Check ahead of ErrOld", []event.Event{{Type: event.Ok, Kind: 99}}, api.ErrArg, 0},
		{"begins while at something", []event.Event{begins(0, 1), begins(1, 1), begins(0, 2)}, api.ErrState, 2},
		{"begins the same again", []event.Event{begins(0, 1), begins(0, 1)}, api.ErrState, 1},
		{"begins behind an Info", []event.Event{begins(0, 1), unknown(0, 1), begins(0, 2)}, api.ErrState, 2},
		{"begins long behind an Info", []event.Event{begins(7, 1), unknown(7, 1), begins(1, 1), took(1, 1, 0), begins(7, 2)}, api.ErrState, 4},
		{"Ok at nothing", []event.Event{took(0, 1, 0)}, api.ErrOld, 0},
		{"Fail at nothing", []event.Event{failed(0, 1)}, api.ErrOld, 0},
		{"Info at nothing", []event.Event{unknown(0, 1)}, api.ErrOld, 0},
		{"of another process", []event.Event{begins(0, 1), took(1, 1, 0)}, api.ErrOld, 1},
		{"two ends", []event.Event{begins(0, 1), took(0, 1, 0), took(0, 1, 0)}, api.ErrOld, 2},
		{"an end behind a Fail", []event.Event{begins(0, 1), failed(0, 1), took(0, 1, 0)}, api.ErrOld, 2},
		{"an end behind an Info", []event.Event{begins(0, 1), unknown(0, 1), took(0, 1, 0)}, api.ErrOld, 2},
		{"an Info behind an Info", []event.Event{begins(0, 1), unknown(0, 1), unknown(0, 1)}, api.ErrOld, 2},
		{"of another key", other(func(e *event.Event) { e.Key = 2 }), api.ErrOld, 1},
		{"of another kind", other(func(e *event.Event) { e.Kind = api.Read }), api.ErrOld, 1},
		{"of another A", other(func(e *event.Event) { e.A = 2 }), api.ErrOld, 1},
		{"of another B", other(func(e *event.Event) { e.B = 2 }), api.ErrOld, 1},
		{"a Fail of another A", other(func(e *event.Event) { e.A, e.Type = 2, event.Fail }), api.ErrOld, 1},
		{"an Info of another B", other(func(e *event.Event) { e.B, e.Type = 2, event.Info }), api.ErrOld, 1},
		{"the first one's", []event.Event{begins(0, 1), took(1, 1, 0), begins(0, 1), {Proc: -1}}, api.ErrOld, 1},
	}
	for _, c := range cases {
		t.Run(c.name, func(t *testing.T) {
			got, err := event.Ops(c.in)
			wantError(t, err, c.want, c.place)
			if len(got) != 0 {
				t.Errorf("%v beside an error", got)
			}
		})
	}
}

// pairs are n events: one process writes again and again.
func pairs(n int) []event.Event {
	var l []event.Event
	for i := range n {
		if i%2 == 0 {
			l = append(l, begins(0, 1))
		} else {
			l = append(l, took(0, 1, 0))
		}
	}
	return l
}

// Promise 1.2: as many events as may be, even if that makes more than MaxOps ops; and one more.
func TestOpsLimit(t *testing.T) {
	got, err := event.Ops(pairs(api.MaxEvents))
	wantError(t, err, api.OK, nowhere)
	if len(got) != api.MaxEvents/2 {
		t.Errorf("%d ops", len(got))
	}
	l := pairs(api.MaxEvents + 1)
	l[0] = event.Event{Proc: -1}
	got, err = event.Ops(l)
	wantError(t, err, api.ErrLimit, nowhere)
	if len(got) != 0 {
		t.Errorf("%v beside an error", got)
	}
}

// Promise 1.3.
func TestBefore(t *testing.T) {
	cases := []struct {
		end, call int
		want      bool
	}{
		{0, 1, true}, {0, 0, false}, {1, 0, false}, {3, 4, true}, {4, 4, false},
		{-1, 0, false}, {-1, 5, false}, {-2, 5, false}, {-5, -1, false},
		{math.MinInt, math.MaxInt, false}, {math.MaxInt - 1, math.MaxInt, true},
	}
	for _, c := range cases {
		if got := event.Before(api.Op{Call: 9, Return: c.end}, api.Op{Call: c.call, Return: 1}); got != c.want {
			t.Errorf("Return %d before Call %d: %v", c.end, c.call, got)
		}
	}
}

// behind is a list of an op that may be, and another one behind it, but for what change does to the second one.
func behind(change func(*api.Op)) []api.Op {
	l := []api.Op{wrote(0, 1, 2, 10, 20), wrote(1, 1, 2, 30, 40)}
	change(&l[1])
	return l
}

// Promise 1.3: what CheckOps says of one op behind another one.
func TestCheckOps(t *testing.T) {
	cases := []struct {
		name   string
		change func(*api.Op)
		want   api.Errno
	}{
		{"as it is", func(o *api.Op) {}, api.OK},
		{"process below", func(o *api.Op) { o.Proc = -1 }, api.ErrRange},
		{"process above", func(o *api.Op) { o.Proc = api.MaxProcs }, api.ErrRange},
		{"last process", func(o *api.Op) { o.Proc = api.MaxProcs - 1 }, api.OK},
		{"key below", func(o *api.Op) { o.Key = -1 }, api.ErrRange},
		{"key above", func(o *api.Op) { o.Key = api.MaxKeys }, api.ErrRange},
		{"last key", func(o *api.Op) { o.Key = api.MaxKeys - 1 }, api.OK},
		{"A below", func(o *api.Op) { o.A = -api.MaxNumber - 1 }, api.ErrRange},
		{"B above", func(o *api.Op) { o.B = api.MaxNumber + 1 }, api.ErrRange},
		{"Result above", func(o *api.Op) { o.Result = api.MaxNumber + 1 }, api.ErrRange},
		{"least numbers", func(o *api.Op) { o.A, o.B, o.Result = -api.MaxNumber, -api.MaxNumber, -api.MaxNumber }, api.OK},
		{"greatest numbers", func(o *api.Op) { o.A, o.B, o.Result = api.MaxNumber, api.MaxNumber, api.MaxNumber }, api.OK},
		{"latest times", func(o *api.Op) { o.Call, o.Return = api.MaxNumber-1, api.MaxNumber }, api.OK},
		{"Call above", func(o *api.Op) { o.Call, o.Return = api.MaxNumber+1, -1 }, api.ErrRange},
		{"Call below", func(o *api.Op) { o.Call = -api.MaxNumber - 1 }, api.ErrRange},
		{"Call at the bound below", func(o *api.Op) { o.Call = -api.MaxNumber }, api.ErrOrder},
		{"Return above", func(o *api.Op) { o.Return = api.MaxNumber + 1 }, api.ErrRange},
		{"Return below", func(o *api.Op) { o.Return = -api.MaxNumber - 1 }, api.ErrRange},
		{"Return at the bound below", func(o *api.Op) { o.Return = -api.MaxNumber }, api.ErrOrder},
		{"kind below", func(o *api.Op) { o.Kind = api.Read - 1 }, api.ErrArg},
		{"kind above", func(o *api.Op) { o.Kind = api.Unlock + 1 }, api.ErrArg},
		{"first kind", func(o *api.Op) { o.Kind = api.Read }, api.OK},
		{"last kind", func(o *api.Op) { o.Kind = api.Unlock }, api.OK},
		{"range ahead of kind", func(o *api.Op) { o.Kind, o.Return = 0, api.MaxNumber+1 }, api.ErrRange},
		{"kind ahead of order", func(o *api.Op) { o.Kind, o.Call = 0, -1 }, api.ErrArg},
		{"Call below 0", func(o *api.Op) { o.Call = -1 }, api.ErrOrder},
		{"Call below that ahead", func(o *api.Op) { o.Call = 9 }, api.ErrOrder},
		{"Call that of the one ahead", func(o *api.Op) { o.Call = 10 }, api.ErrOrder},
		{"Call just above", func(o *api.Op) { o.Call = 11 }, api.OK},
		{"Return below Call", func(o *api.Op) { o.Return = 29 }, api.ErrOrder},
		{"Return at Call", func(o *api.Op) { o.Return = 30 }, api.ErrOrder},
		{"Return just above", func(o *api.Op) { o.Return = 31 }, api.OK},
		{"Return -2", func(o *api.Op) { o.Return, o.Result = -2, 0 }, api.ErrOrder},
		{"Return 0", func(o *api.Op) { o.Return = 0 }, api.ErrOrder},
		{"no end, a Result", func(o *api.Op) { o.Return = -1 }, api.ErrOrder},
		{"no end, no Result", func(o *api.Op) { o.Return, o.Result = -1, 0 }, api.OK},
		{"Call is a Return ahead", func(o *api.Op) { o.Call = 20 }, api.ErrTwice},
		{"Return is a Return ahead", func(o *api.Op) { o.Call, o.Return = 15, 20 }, api.ErrTwice},
		{"order ahead of twice", func(o *api.Op) { o.Call, o.Return = 20, 19 }, api.ErrOrder},
		{"twice ahead of state", func(o *api.Op) { o.Proc, o.Call = 0, 20 }, api.ErrTwice},
		{"same process, behind", func(o *api.Op) { o.Proc, o.Call = 0, 21 }, api.OK},
		{"same process, not behind", func(o *api.Op) { o.Proc, o.Call = 0, 19 }, api.ErrState},
	}
	for _, c := range cases {
		t.Run(c.name, func(t *testing.T) {
			wantError(t, event.CheckOps(behind(c.change)), c.want, nowhere)
		})
	}
}

// Promise 1.3: lists of other lengths.
func TestCheckOpsLists(t *testing.T) {
	cases := []struct {
		name string
		in   []api.Op
		want api.Errno
	}{
		{"none", nil, api.OK},
		{"first at 0", []api.Op{wrote(0, 1, 0, 0, 1)}, api.OK},
		{"first below 0", []api.Op{wrote(0, 1, 0, -1, 1)}, api.ErrOrder},
		{"first without an end, with a Result", []api.Op{wrote(0, 1, 1, 0, -1)}, api.ErrOrder},
		{"several without an end", []api.Op{wrote(0, 1, 0, 0, -1), wrote(1, 1, 0, 1, -1), wrote(2, 1, 0, 2, -1)}, api.OK},
		{"behind one of its own without an end", []api.Op{wrote(0, 1, 0, 0, -1), wrote(0, 1, 0, 5, 6)}, api.ErrState},
		{"long behind it", []api.Op{wrote(0, 1, 0, 0, -1), wrote(1, 1, 0, 1, 2), wrote(1, 1, 0, 3, 4), wrote(0, 1, 0, 5, 6)}, api.ErrState},
		{"a Return of one long ahead", []api.Op{wrote(0, 1, 0, 0, 9), wrote(1, 1, 0, 1, 2), wrote(2, 1, 0, 3, 9)}, api.ErrTwice},
		{"a Call at a Return long ahead", []api.Op{wrote(0, 1, 0, 0, 9), wrote(1, 1, 0, 1, 2), wrote(2, 1, 0, 9, 10)}, api.ErrTwice},
		{"the first one's", []api.Op{wrote(0, 1, 0, 5, 5), wrote(-1, 1, 0, 6, 7)}, api.ErrOrder},
		{"wrong in its middle", []api.Op{wrote(0, 1, 0, 0, 1), {Call: 2, Return: 3}, wrote(-1, 1, 0, 4, 5)}, api.ErrArg},
	}
	for _, c := range cases {
		t.Run(c.name, func(t *testing.T) {
			wantError(t, event.CheckOps(c.in), c.want, nowhere)
		})
	}
}

// Promise 1.3: as many ops as may be, and one more.
func TestCheckOpsLimit(t *testing.T) {
	var l []api.Op
	for i := range api.MaxOps {
		l = append(l, wrote(i%3, 1, 0, 2*i, 2*i+1))
	}
	wantError(t, event.CheckOps(l), api.OK, nowhere)
	l = append(l, wrote(0, 1, 0, 2*api.MaxOps, -1))
	wantError(t, event.CheckOps(l), api.ErrLimit, nowhere)
	l[0].Proc = -1
	wantError(t, event.CheckOps(l), api.ErrLimit, nowhere)
}

// drawn are events that may have been seen, the same for the same source; longer ones have more ops than MaxOps.
func drawn(r *rand.Rand, most int) []event.Event {
	var l []event.Event
	at := map[int]event.Event{}
	lost := map[int]bool{}
	for range r.Intn(most + 1) {
		p := r.Intn(api.MaxProcs)
		e, busy := at[p]
		switch {
		case lost[p]:
			continue
		case !busy:
			e = event.Event{Proc: p, Type: event.Invoke, Key: r.Intn(api.MaxKeys), Kind: api.Read + r.Intn(api.Unlock), A: r.Intn(9) - 4, B: r.Intn(9) - 4}
			at[p] = e
		default:
			delete(at, p)
			e.Type = event.Ok + r.Intn(3)*r.Intn(2)
			lost[p] = e.Type == event.Info
			if e.Type == event.Ok {
				e.Result = r.Intn(9) - 4
			}
		}
		l = append(l, e)
	}
	return l
}

// Promises 1.2 and 1.3: what Ops tells, CheckOps takes; each op stands where its events stand.
func TestOpsOfDrawnEvents(t *testing.T) {
	r := rand.New(rand.NewSource(1))
	for range 500 {
		l := drawn(r, 2*api.MaxOps)
		kept := slices.Clone(l)
		ops, err := event.Ops(l)
		wantError(t, err, api.OK, nowhere)
		if !slices.Equal(l, kept) {
			t.Fatalf("%v was written into", kept)
		}
		if len(ops) <= api.MaxOps {
			wantError(t, event.CheckOps(ops), api.OK, nowhere)
		}
		for _, o := range ops {
			e := event.Event{Proc: o.Proc, Type: event.Invoke, Key: o.Key, Kind: o.Kind, A: o.A, B: o.B}
			if l[o.Call] != e {
				t.Errorf("%v is not the call of %v", l[o.Call], o)
			}
			e.Type, e.Result = event.Ok, o.Result
			if o.Return != -1 && l[o.Return] != e {
				t.Errorf("%v is not the end of %v", l[o.Return], o)
			}
		}
	}
}

// P4: what came out is the caller's, and what went in is not kept.
func TestOpsIsFresh(t *testing.T) {
	l := append(make([]event.Event, 0, 8), begins(0, 1), took(0, 1, 2), begins(1, 3))
	first, _ := event.Ops(l)
	want := slices.Clone(first)
	second, _ := event.Ops(l)
	second[0].A = 99
	l[0].A = 98
	if !slices.Equal(first, want) {
		t.Errorf("%v, not %v", first, want)
	}
	if l[:4][3] != (event.Event{}) {
		t.Error("what stands behind the list's length was written into")
	}
}
