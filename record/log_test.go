package record_test

import (
	"bytes"
	"math"
	"slices"
	"testing"

	"testimony/api"
	"testimony/event"
	"testimony/record"
)

// added is a log with these events.
func added(t *testing.T, l ...event.Event) *record.Log {
	t.Helper()
	var log record.Log
	for _, e := range l {
		if err := log.Add(e); err != nil {
			t.Fatal(e, err)
		}
	}
	return &log
}

// wantSize fails unless a log has so many bytes, of which so many are sure.
func wantSize(t *testing.T, log *record.Log, all, sure int) {
	t.Helper()
	if a, s := log.Size(); a != all || s != sure {
		t.Errorf("%d bytes, %d of them sure, not %d, %d", a, s, all, sure)
	}
}

// wantLeft fails unless a crash leaves just these bytes.
func wantLeft(t *testing.T, log *record.Log, keep int, torn, want []byte) {
	t.Helper()
	if b, err := log.Crash(keep, torn); err != nil || !bytes.Equal(b, want) {
		t.Errorf("crash %d %v: %v, %v, not %v", keep, torn, b, err, want)
	}
}

// wantNoCrash fails unless there are not so many bytes to keep.
func wantNoCrash(t *testing.T, log *record.Log, keep int) {
	t.Helper()
	if b, err := log.Crash(keep, []byte{1}); b != nil || err != error(api.ErrRange) {
		t.Errorf("crash %d: %v, %#v", keep, b, err)
	}
}

// Promise 18.2: a log's zero value is empty.
func TestEmptyLog(t *testing.T) {
	for _, log := range []*record.Log{{}, nil} {
		wantSize(t, log, 0, 0)
		log.Sync()
		wantSize(t, log, 0, 0)
		wantLeft(t, log, 0, nil, nil)
		wantLeft(t, log, 0, []byte{0, 3, 1}, []byte{0, 3, 1})
		wantNoCrash(t, log, 1)
		wantNoCrash(t, log, -1)
	}
}

// Rule P1: none panics; a nil log has no place for an event.
func TestNilLog(t *testing.T) {
	var log *record.Log
	if err := log.Add(codes[2].what); err != error(api.ErrLimit) {
		t.Errorf("%#v", err)
	}
	if err := log.Add(event.Event{}); err != error(api.ErrArg) {
		t.Errorf("%#v", err)
	}
}

// Promise 18.2.
func TestLogByHand(t *testing.T) {
	var log record.Log
	log.Add(codes[2].what)
	wantSize(t, &log, 13, 0)
	log.Sync()
	wantSize(t, &log, 13, 13)
	log.Add(codes[7].what)
	log.Add(codes[0].what)
	wantSize(t, &log, 43, 13)
	all := slices.Concat(framed(codes[2].want), framed(codes[7].want), framed(codes[0].want))
	for keep := range 31 {
		wantLeft(t, &log, keep, nil, all[:13+keep])
		wantLeft(t, &log, keep, []byte{7, 8}, slices.Concat(all[:13+keep], []byte{7, 8}))
	}
	for _, keep := range []int{-1, 31, 43, math.MinInt, math.MaxInt} {
		wantNoCrash(t, &log, keep)
	}
	wantSize(t, &log, 43, 13)
	log.Sync()
	log.Sync()
	wantSize(t, &log, 43, 43)
	wantLeft(t, &log, 0, nil, all)
	wantNoCrash(t, &log, 1)
}

// Promise 18.2: a crash tells what is left; the log goes on as it was.
func TestCrashChangesNothing(t *testing.T) {
	log := added(t, codes[0].what, codes[2].what)
	wantLeft(t, log, 4, []byte{9}, append(framed(codes[0].want)[:4:4], 9))
	wantSize(t, log, 26, 0)
	log.Add(codes[7].what)
	wantLeft(t, log, 43, nil, slices.Concat(framed(codes[0].want), framed(codes[2].want), framed(codes[7].want)))
}

// Promise 18.2: with an error nothing is added; what Encode says comes ahead of ErrLimit.
func TestAddSaysNo(t *testing.T) {
	log := added(t, codes[2].what)
	for _, c := range []struct {
		what event.Event
		want api.Errno
	}{
		{event.Event{}, api.ErrArg},
		{event.Event{Proc: 8, Type: 1, Kind: 1}, api.ErrRange},
		{event.Event{Type: 1, Kind: 1, Result: 1}, api.ErrArg},
	} {
		if err := log.Add(c.what); err != error(c.want) {
			t.Errorf("%v: %#v", c.what, err)
		}
	}
	wantSize(t, log, 13, 0)
	for range api.MaxEvents - 1 {
		if err := log.Add(codes[0].what); err != nil {
			t.Fatal(err)
		}
	}
	wantSize(t, log, 13*api.MaxEvents, 0)
	for range 2 {
		if err := log.Add(codes[0].what); err != error(api.ErrLimit) {
			t.Errorf("%#v", err)
		}
		if err := log.Add(event.Event{}); err != error(api.ErrArg) {
			t.Errorf("%#v", err)
		}
		log.Sync()
	}
	wantSize(t, log, 13*api.MaxEvents, 13*api.MaxEvents)
	b, _ := log.Crash(0, nil)
	if l, n := record.Recover(b); len(l) != api.MaxEvents || n != len(b) {
		t.Error(len(l), n)
	}
}

// Rule P4: what comes out is the caller's, what goes in is not kept.
func TestLogSharesNothing(t *testing.T) {
	log := added(t, codes[2].what)
	want := framed(codes[2].want)
	b, _ := log.Crash(13, nil)
	clear(b)
	wantLeft(t, log, 13, nil, want)
	b, _ = log.Crash(5, nil)
	_ = append(b, 1, 2, 3, 4, 5, 6, 7, 8)
	wantLeft(t, log, 13, nil, want)
	torn := []byte{1, 2, 3, 4}
	b, _ = log.Crash(0, torn[:2])
	clear(b)
	_ = append(b, 9)
	if !bytes.Equal(torn, []byte{1, 2, 3, 4}) {
		t.Error("Crash wrote into what it was given", torn)
	}
	var none *record.Log
	b, _ = none.Crash(0, torn)
	clear(b)
	if !bytes.Equal(torn, []byte{1, 2, 3, 4}) {
		t.Error("Crash hands out what it was given", torn)
	}
}

// A copy of a log goes on by itself.
func TestLogsApart(t *testing.T) {
	for n := range 20 {
		one := added(t, slices.Repeat([]event.Event{codes[2].what}, n)...)
		two := *one
		one.Add(codes[0].what)
		two.Add(codes[7].what)
		all, _ := one.Size()
		wantLeft(t, one, all, nil, slices.Concat(bytes.Repeat(framed(codes[2].want), n), framed(codes[0].want)))
	}
}
