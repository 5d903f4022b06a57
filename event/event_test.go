package event_test

import (
	"math"
	"testing"

	"testimony/api"
	"testimony/event"
)

// nowhere is the place of an error that has none.
const nowhere = -1

// wantError fails unless err is of that number, and an At just if it has a place.
func wantError(t *testing.T, err error, want api.Errno, place int) {
	t.Helper()
	switch e := err.(type) {
	case nil:
		if want == api.OK {
			return
		}
	case api.Errno:
		if e == want && want != api.OK && place == nowhere {
			return
		}
	case *api.At:
		if e != nil && e.Err == want && e.Place == place {
			return
		}
	}
	t.Errorf("told %#v, not %v at %d", err, want, place)
}

// changed is an event that may be, but for what change does to it.
func changed(change func(*event.Event)) event.Event {
	e := event.Event{Proc: 1, Type: event.Ok, Key: 1, Kind: api.Swap, A: 1, B: 2, Result: 1}
	change(&e)
	return e
}

// checkCases are events, and what Check says of each.
var checkCases = []struct {
	name   string
	change func(*event.Event)
	want   api.Errno
}{
	{"as it is", func(e *event.Event) {}, api.OK},
	{"first process", func(e *event.Event) { e.Proc = 0 }, api.OK},
	{"last process", func(e *event.Event) { e.Proc = api.MaxProcs - 1 }, api.OK},
	{"process below", func(e *event.Event) { e.Proc = -1 }, api.ErrRange},
	{"process above", func(e *event.Event) { e.Proc = api.MaxProcs }, api.ErrRange},
	{"first key", func(e *event.Event) { e.Key = 0 }, api.OK},
	{"last key", func(e *event.Event) { e.Key = api.MaxKeys - 1 }, api.OK},
	{"key below", func(e *event.Event) { e.Key = -1 }, api.ErrRange},
	{"key above", func(e *event.Event) { e.Key = api.MaxKeys }, api.ErrRange},
	{"least numbers", func(e *event.Event) { e.A, e.B, e.Result = -api.MaxNumber, -api.MaxNumber, -api.MaxNumber }, api.OK},
	{"greatest numbers", func(e *event.Event) { e.A, e.B, e.Result = api.MaxNumber, api.MaxNumber, api.MaxNumber }, api.OK},
	{"A below", func(e *event.Event) { e.A = -api.MaxNumber - 1 }, api.ErrRange},
	{"A above", func(e *event.Event) { e.A = api.MaxNumber + 1 }, api.ErrRange},
	{"B below", func(e *event.Event) { e.B = -api.MaxNumber - 1 }, api.ErrRange},
	{"B above", func(e *event.Event) { e.B = api.MaxNumber + 1 }, api.ErrRange},
	{"Result below", func(e *event.Event) { e.Result = -api.MaxNumber - 1 }, api.ErrRange},
	{"Result above", func(e *event.Event) { e.Result = api.MaxNumber + 1 }, api.ErrRange},
	{"least ints", func(e *event.Event) { e.A, e.B, e.Result = math.MinInt, math.MinInt, math.MinInt }, api.ErrRange},
	{"greatest ints", func(e *event.Event) {
		e.Proc, e.Key, e.Type, e.Kind = math.MaxInt, math.MaxInt, math.MaxInt, math.MaxInt
	}, api.ErrRange},
	{"type below", func(e *event.Event) { e.Type = event.Invoke - 1 }, api.ErrArg},
	{"type above", func(e *event.Event) { e.Type = event.Info + 1 }, api.ErrArg},
	{"type below, no Result", func(e *event.Event) { e.Type, e.Result = event.Invoke-1, 0 }, api.ErrArg},
	{"type above, no Result", func(e *event.Event) { e.Type, e.Result = event.Info+1, 0 }, api.ErrArg},
	{"first kind", func(e *event.Event) { e.Kind = api.Read }, api.OK},
	{"last kind", func(e *event.Event) { e.Kind = api.Unlock }, api.OK},
	{"kind below", func(e *event.Event) { e.Kind = api.Read - 1 }, api.ErrArg},
	{"kind above", func(e *event.Event) { e.Kind = api.Unlock + 1 }, api.ErrArg},
	{"range ahead of type", func(e *event.Event) { e.Type, e.B = 9, api.MaxNumber+1 }, api.ErrRange},
	{"range ahead of kind", func(e *event.Event) { e.Kind, e.Key = 0, api.MaxKeys }, api.ErrRange},
	{"Invoke with a Result", func(e *event.Event) { e.Type = event.Invoke }, api.ErrArg},
	{"Fail with a Result", func(e *event.Event) { e.Type = event.Fail }, api.ErrArg},
	{"Info with a Result", func(e *event.Event) { e.Type = event.Info }, api.ErrArg},
	{"Info with a Result below 0", func(e *event.Event) { e.Type, e.Result = event.Info, -1 }, api.ErrArg},
	{"Invoke without one", func(e *event.Event) { e.Type, e.Result = event.Invoke, 0 }, api.OK},
	{"Fail without one", func(e *event.Event) { e.Type, e.Result = event.Fail, 0 }, api.OK},
	{"Info without one", func(e *event.Event) { e.Type, e.Result = event.Info, 0 }, api.OK},
	{"Ok without one", func(e *event.Event) { e.Result = 0 }, api.OK},
}

// Promise 1.1.
func TestTypesAreNumberedFromOne(t *testing.T) {
	if event.Invoke != 1 || event.Ok != 2 || event.Fail != 3 || event.Info != 4 {
		t.Error(event.Invoke, event.Ok, event.Fail, event.Info)
	}
}

// Promise 1.1.
func TestCheck(t *testing.T) {
	for _, c := range checkCases {
		t.Run(c.name, func(t *testing.T) {
			wantError(t, event.Check(changed(c.change)), c.want, nowhere)
		})
	}
}

// Promise 1.1: every kind there is may be, of every type.
func TestCheckTakesEachKindAndType(t *testing.T) {
	for kind := api.Read; kind <= api.Unlock; kind++ {
		for what := event.Invoke; what <= event.Info; what++ {
			wantError(t, event.Check(event.Event{Type: what, Kind: kind}), api.OK, nowhere)
		}
	}
	wantError(t, event.Check(event.Event{}), api.ErrArg, nowhere)
}
