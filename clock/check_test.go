package clock_test

import (
	"errors"
	"math"
	"testing"

	"testimony/api"
	"testimony/clock"
)

// own, send and receive are steps.
func own(proc int) clock.Step { return clock.Step{Proc: proc, Kind: clock.Own} }

func send(proc, message int) clock.Step {
	return clock.Step{Proc: proc, Kind: clock.Send, Message: message}
}

func receive(proc, message int) clock.Step {
	return clock.Step{Proc: proc, Kind: clock.Receive, Message: message}
}

// isAt says whether an error is that one at that place; -1: without a place.
func isAt(err error, want api.Errno, place int) bool {
	if place < 0 {
		return err == error(want)
	}
	var at *api.At
	return errors.As(err, &at) && at.Err == want && at.Place == place
}

// checkFault asks whether all tell want at that place, and nothing beside it, whatever the cut.
func checkFault(t *testing.T, name string, l []clock.Step, want api.Errno, place int) {
	t.Helper()
	tell := func(face string, empty bool, err error) {
		t.Helper()
		if !empty || !isAt(err, want, place) {
			t.Errorf("%s: %s tells %v (%#v), nothing beside it: %v; not %v at %d", name, face, err, err, empty, want, place)
		}
	}
	tell("Check", true, clock.Check(l))
	times, err := clock.Times(l)
	tell("Times", times == nil, err)
	vectors, err := clock.Vectors(l)
	tell("Vectors", vectors == nil, err)
	rows, err := clock.Ahead(l)
	tell("Ahead", rows == nil, err)
	count, err := clock.Cuts(l)
	tell("Cuts", count == 0, err)
	for _, c := range []clock.Cut{{}, {1}, {-1}, {0, math.MaxInt}} {
		ok, err := clock.Steady(l, c)
		tell("Steady", !ok, err)
		below, err := clock.Below(l, c)
		tell("Below", below == clock.Cut{}, err)
	}
}

func checkFine(t *testing.T, name string, l ...clock.Step) {
	t.Helper()
	if err := clock.Check(l); err != nil {
		t.Errorf("%s: %v", name, err)
	}
}

// The kinds' numbers are told by the document.
func TestKinds(t *testing.T) {
	if clock.Own != 1 || clock.Send != 2 || clock.Receive != 3 {
		t.Errorf("%d, %d, %d", clock.Own, clock.Send, clock.Receive)
	}
}

// 9.1: what may be.
func TestCheckFine(t *testing.T) {
	checkFine(t, "nothing")
	checkFine(t, "one", own(0))
	checkFine(t, "the last process", own(api.MaxProcs-1), send(api.MaxProcs-1, 1))
	checkFine(t, "sent, never received", send(0, 1), send(0, 2), send(1, 3))
	checkFine(t, "sent and received", send(0, 1), receive(1, 1))
	checkFine(t, "message 0", send(0, 0), receive(1, 0))
	checkFine(t, "message 0 beside steps of one's own", own(0), own(1), send(0, 0), own(0), receive(1, 0), own(1))
	checkFine(t, "the greatest message", send(0, api.MaxNumber), receive(1, api.MaxNumber))
	checkFine(t, "to oneself", send(3, 1), receive(3, 1))
	checkFine(t, "late", send(0, 1), own(0), own(1), send(0, 2), receive(1, 2), receive(1, 1))
	checkFine(t, "numbers that fall", send(0, 9), send(0, 4), receive(1, 4), receive(1, 9))
}

// 9.1: as many steps as may be, and one more: that is told ahead of all else, without a place.
func TestCheckLimit(t *testing.T) {
	var l []clock.Step
	for n := range 40 {
		l = append(l, own(n%api.MaxProcs))
	}
	checkFine(t, "just as many", l...)
	checkFault(t, "one more", append(l, own(0)), api.ErrLimit, -1)
	l[0] = own(-1)
	checkFault(t, "just as many, one wrong", l, api.ErrRange, 0)
	checkFault(t, "one more, one wrong", append(l, own(0)), api.ErrLimit, -1)
}

// 9.1: ErrRange.
func TestCheckRange(t *testing.T) {
	cases := []struct {
		name string
		s    clock.Step
	}{
		{"a process below 0", own(-1)},
		{"a process beyond", own(api.MaxProcs)},
		{"a process far beyond", send(math.MaxInt, 7)},
		{"a process far below", send(math.MinInt, 7)},
		{"a message below 0", send(0, -1)},
		{"a message beyond", send(0, api.MaxNumber+1)},
		{"a message far beyond", receive(0, math.MaxInt)},
		{"a message far below", receive(0, math.MinInt)},
		{"a message below 0 of one's own", clock.Step{Kind: clock.Own, Message: -1}},
		{"a message beyond, of one's own", clock.Step{Kind: clock.Own, Message: api.MaxNumber + 1}},
		{"a message beyond, no kind", clock.Step{Message: api.MaxNumber + 1}},
		{"a process beyond, no kind", clock.Step{Proc: api.MaxProcs, Kind: 4}},
	}
	for _, c := range cases {
		checkFault(t, c.name, []clock.Step{c.s}, api.ErrRange, 0)
		checkFault(t, c.name+", last", []clock.Step{own(0), send(1, 5), c.s}, api.ErrRange, 2)
	}
}

// 9.1: ErrArg.
func TestCheckArg(t *testing.T) {
	cases := []struct {
		name string
		s    clock.Step
	}{
		{"no kind", clock.Step{}},
		{"a kind below 0", clock.Step{Kind: -1}},
		{"a kind beyond", clock.Step{Kind: clock.Receive + 1}},
		{"a kind far beyond", clock.Step{Kind: math.MaxInt}},
		{"a kind far below", clock.Step{Kind: math.MinInt}},
		{"no kind, a message", clock.Step{Message: 5}},
		{"a message of one's own", clock.Step{Kind: clock.Own, Message: 1}},
		{"a message of one's own that was sent", clock.Step{Kind: clock.Own, Message: 5}},
	}
	for _, c := range cases {
		checkFault(t, c.name, []clock.Step{c.s}, api.ErrArg, 0)
		checkFault(t, c.name+", last", []clock.Step{own(0), send(1, 5), c.s}, api.ErrArg, 2)
		checkFault(t, c.name+", in the middle", []clock.Step{own(0), c.s, own(-1)}, api.ErrArg, 1)
	}
}

// 9.1: ErrTwice.
func TestCheckTwice(t *testing.T) {
	checkFault(t, "sent again", []clock.Step{send(0, 1), send(0, 1)}, api.ErrTwice, 1)
	checkFault(t, "sent again by another one", []clock.Step{send(0, 1), own(0), send(1, 1)}, api.ErrTwice, 2)
	checkFault(t, "sent again, having been received", []clock.Step{send(0, 1), receive(1, 1), send(0, 1)}, api.ErrTwice, 2)
	checkFault(t, "message 0 sent again", []clock.Step{send(0, 0), send(0, 0)}, api.ErrTwice, 1)
	checkFault(t, "received again", []clock.Step{send(0, 1), receive(1, 1), receive(1, 1)}, api.ErrTwice, 2)
	checkFault(t, "received again by another one", []clock.Step{send(0, 1), receive(1, 1), own(0), receive(2, 1)}, api.ErrTwice, 3)
	checkFault(t, "message 0 received again", []clock.Step{send(0, 0), receive(1, 0), receive(1, 0)}, api.ErrTwice, 2)
	checkFault(t, "the second of two", []clock.Step{send(0, 1), send(0, 2), receive(1, 1), receive(1, 2), receive(0, 2)}, api.ErrTwice, 4)
}

// 9.1: ErrMissing: sent behind, or not at all.
func TestCheckMissing(t *testing.T) {
	checkFault(t, "never sent", []clock.Step{receive(1, 1)}, api.ErrMissing, 0)
	checkFault(t, "sent behind", []clock.Step{receive(1, 1), send(0, 1)}, api.ErrMissing, 0)
	checkFault(t, "sent behind by oneself", []clock.Step{own(0), receive(0, 1), send(0, 1)}, api.ErrMissing, 1)
	checkFault(t, "another one is sent", []clock.Step{send(0, 1), receive(1, 2)}, api.ErrMissing, 1)
	checkFault(t, "message 0 never sent", []clock.Step{own(0), own(1), receive(1, 0)}, api.ErrMissing, 2)
	checkFault(t, "never sent, twice", []clock.Step{receive(1, 1), receive(1, 1)}, api.ErrMissing, 0)
}

// 9.1: step by step: of two that are wrong the first one's is told.
func TestCheckStepByStep(t *testing.T) {
	wrong := []struct {
		s    clock.Step
		want api.Errno
	}{
		{own(-1), api.ErrRange},
		{clock.Step{}, api.ErrArg},
		{send(0, 1), api.ErrTwice},
		{receive(0, 1), api.ErrTwice},
		{receive(0, 2), api.ErrMissing},
	}
	for _, a := range wrong {
		for _, b := range wrong {
			checkFault(t, "two wrong", []clock.Step{send(0, 1), receive(1, 1), a.s, b.s}, a.want, 2)
		}
	}
}
