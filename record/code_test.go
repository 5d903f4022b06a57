package record_test

import (
	"bytes"
	"encoding/binary"
	"math"
	"slices"
	"testing"

	"testimony/api"
	"testimony/event"
	"testimony/record"
)

// die: numbers that look drawn, the same each time.
type die uint64

func (d *die) n(most int) int {
	*d = *d*6364136223846793005 + 1442695040888963407
	return int(uint64(*d>>33) % uint64(most))
}

// drawNumber is a number of an event: a small one, one of each length, or one at an edge.
func drawNumber(d *die) int {
	edges := []int{0, 1, -1, 63, 64, -64, -65, 8191, 8192, -8192, -8193, api.MaxNumber, -api.MaxNumber}
	switch d.n(3) {
	case 0:
		return d.n(5) - 2
	case 1:
		return edges[d.n(len(edges))]
	}
	return d.n(2*api.MaxNumber+1) - api.MaxNumber
}

// drawEvent is an event that may be.
func drawEvent(d *die) event.Event {
	e := event.Event{Proc: d.n(api.MaxProcs), Type: event.Invoke + d.n(4), Key: d.n(api.MaxKeys), Kind: api.Read + d.n(12), A: drawNumber(d), B: drawNumber(d)}
	if e.Type == event.Ok {
		e.Result = drawNumber(d)
	}
	return e
}

// encoded is an event's bytes, which it must have.
func encoded(t *testing.T, e event.Event) []byte {
	t.Helper()
	b, err := record.Encode(e)
	if err != nil || len(b) == 0 {
		t.Fatal(e, b, err)
	}
	return b
}

// wantEvent fails unless Decode knows b as that event.
func wantEvent(t *testing.T, b []byte, want event.Event) {
	t.Helper()
	if e, err := record.Decode(b); e != want || err != nil {
		t.Errorf("%v: told %v, %v, not %v", b, e, err, want)
	}
}

// wantNoEvent fails unless Decode knows no event of b: ErrForm, without a place.
func wantNoEvent(t *testing.T, b []byte) {
	t.Helper()
	if e, err := record.Decode(b); e != (event.Event{}) || err != error(api.ErrForm) {
		t.Errorf("%v: told %v, %#v", b, e, err)
	}
}

// codes are events, and their bytes by hand.
var codes = []struct {
	what event.Event
	want []byte
}{
	{event.Event{Type: event.Invoke, Kind: api.Read}, []byte{0, 1, 0, 1, 0, 0, 0}},
	{event.Event{Proc: 7, Type: event.Info, Key: 6, Kind: api.Unlock}, []byte{7, 4, 6, 12, 0, 0, 0}},
	{event.Event{Proc: 1, Type: event.Ok, Key: 2, Kind: api.Swap, A: 1, B: 2, Result: 3}, []byte{1, 2, 2, 3, 2, 4, 6}},
	{event.Event{Proc: 1, Type: event.Ok, Key: 2, Kind: api.Swap, A: -1, B: -2, Result: -3}, []byte{1, 2, 2, 3, 1, 3, 5}},
	{event.Event{Type: event.Ok, Kind: api.Read, A: 63, B: -64, Result: 64}, []byte{0, 2, 0, 1, 126, 127, 128, 1}},
	{event.Event{Type: event.Fail, Kind: api.Write, A: -65, B: 150}, []byte{0, 3, 0, 2, 129, 1, 172, 2, 0}},
	{event.Event{Type: event.Invoke, Kind: api.Write, A: 8191, B: -8192}, []byte{0, 1, 0, 2, 254, 127, 255, 127, 0}},
	{event.Event{Type: event.Invoke, Kind: api.Write, A: 8192, B: -8193}, []byte{0, 1, 0, 2, 128, 128, 1, 129, 128, 1, 0}},
	{event.Event{Type: event.Ok, Kind: api.Read, A: api.MaxNumber, B: -api.MaxNumber, Result: api.MaxNumber}, []byte{0, 2, 0, 1, 128, 137, 122, 255, 136, 122, 128, 137, 122}},
}

// Promise 18.1.
func TestCodesByHand(t *testing.T) {
	for _, c := range codes {
		if b := encoded(t, c.what); !bytes.Equal(b, c.want) {
			t.Errorf("%v: %v, not %v", c.what, b, c.want)
		}
		wantEvent(t, c.want, c.what)
	}
}

// Promise 18.1: Encode says what Check says, and tells no bytes then.
func TestEncodeSaysWhatCheckSays(t *testing.T) {
	for _, c := range []struct {
		what event.Event
		want api.Errno
	}{
		{event.Event{}, api.ErrArg},
		{event.Event{Proc: -1, Type: 1, Kind: 1}, api.ErrRange},
		{event.Event{Proc: api.MaxProcs, Type: 1, Kind: 1}, api.ErrRange},
		{event.Event{Proc: 256, Type: 1, Kind: 1}, api.ErrRange},
		{event.Event{Key: -1, Type: 1, Kind: 1}, api.ErrRange},
		{event.Event{Key: api.MaxKeys, Type: 1, Kind: 1}, api.ErrRange},
		{event.Event{A: api.MaxNumber + 1, Type: 1, Kind: 1}, api.ErrRange},
		{event.Event{B: -api.MaxNumber - 1, Type: 1, Kind: 1}, api.ErrRange},
		{event.Event{Result: math.MinInt, Type: 2, Kind: 1}, api.ErrRange},
		{event.Event{A: math.MaxInt, Type: 9, Kind: 99}, api.ErrRange},
		{event.Event{Type: 0, Kind: 1}, api.ErrArg},
		{event.Event{Type: 5, Kind: 1}, api.ErrArg},
		{event.Event{Type: 257, Kind: 1}, api.ErrArg},
		{event.Event{Type: 1, Kind: 0}, api.ErrArg},
		{event.Event{Type: 1, Kind: 13}, api.ErrArg},
		{event.Event{Type: event.Invoke, Kind: 1, Result: 1}, api.ErrArg},
		{event.Event{Type: event.Fail, Kind: 1, Result: -1}, api.ErrArg},
		{event.Event{Type: event.Info, Kind: 1, Result: 1}, api.ErrArg},
	} {
		if b, err := record.Encode(c.what); b != nil || err != error(c.want) {
			t.Errorf("%v: %v, %#v, not %v", c.what, b, err, c.want)
		}
		if event.Check(c.what) != error(c.want) {
			t.Errorf("%v: Check says something else", c.what)
		}
	}
}

// Promise 18.1: drawn events have the bytes that the library's varints make, and come back from them.
func TestCodesOfDrawnEvents(t *testing.T) {
	d := die(1)
	for range 3000 {
		e := drawEvent(&d)
		want := []byte{byte(e.Proc), byte(e.Type), byte(e.Key), byte(e.Kind)}
		for _, n := range []int{e.A, e.B, e.Result} {
			want = binary.AppendVarint(want, int64(n))
		}
		if b := encoded(t, e); !bytes.Equal(b, want) {
			t.Fatalf("%v: %v, not %v", e, b, want)
		}
		wantEvent(t, want, e)
	}
}

// Promise 18.1: no more and no fewer bytes than Encode makes are an event.
func TestDecodeWantsJustTheseBytes(t *testing.T) {
	wantNoEvent(t, nil)
	for _, c := range codes {
		for n := range c.want {
			wantNoEvent(t, c.want[:n])
		}
		for _, more := range []byte{0, 1, 127, 128, 255} {
			wantNoEvent(t, slices.Concat(c.want, []byte{more}))
		}
		wantNoEvent(t, slices.Concat(c.want, c.want))
	}
}

// Promise 18.1: bytes of events that may not be, and numbers written otherwise, are none of Encode's.
func TestDecodeKnowsNoOtherForm(t *testing.T) {
	for _, b := range [][]byte{
		{8, 1, 0, 1, 0, 0, 0},   // a process too great
		{255, 1, 0, 1, 0, 0, 0}, //
		{0, 0, 0, 1, 0, 0, 0},   // no type
		{0, 5, 0, 1, 0, 0, 0},   //
		{0, 1, 8, 1, 0, 0, 0},   // a key too great
		{0, 1, 0, 0, 0, 0, 0},   // no kind
		{0, 1, 0, 13, 0, 0, 0},  //
		{0, 1, 0, 1, 0, 0, 2},   // a Result of what is no Ok
		{0, 4, 0, 1, 0, 0, 1},
		{0, 1, 0, 1, 128, 0, 0, 0}, // 0 in two bytes
		{0, 1, 0, 1, 0, 128, 0, 0},
		{0, 2, 0, 1, 0, 0, 128, 0},
		{0, 1, 0, 1, 130, 128, 0, 0, 0},   // 1 in three bytes
		{0, 1, 0, 1, 130, 137, 122, 0, 0}, // one more than MaxNumber
		{0, 1, 0, 1, 0, 129, 137, 122, 0}, // one less than the least
		{0, 1, 0, 1, 128, 128, 128, 128, 128, 128, 128, 128, 128, 1, 0, 0},           // the greatest power that 64 bits have
		{0, 1, 0, 1, 255, 255, 255, 255, 255, 255, 255, 255, 255, 1, 0, 0},           // the least of 64 bits
		{0, 1, 0, 1, 128, 128, 128, 128, 128, 128, 128, 128, 128, 2, 0, 0},           // beyond 64 bits: nothing of it is left
		{0, 1, 0, 1, 130, 128, 128, 128, 128, 128, 128, 128, 128, 128, 128, 1, 0, 0}, // 1, but for what is beyond
		{0, 1, 0, 1, 0, 0, 128}, // no end
		{0, 1, 0, 1, 128, 128, 128},
		{0, 1, 0, 1},
	} {
		wantNoEvent(t, b)
	}
	wantNoEvent(t, slices.Concat([]byte{0, 1, 0, 1}, bytes.Repeat([]byte{128}, 70_000), []byte{0, 0, 0}))
}

// Promise 18.1: of any bytes, either Encode makes them of what is told, or no event that may be does.
func TestDecodeOfDrawnBytes(t *testing.T) {
	d := die(2)
	known, unknown := 0, 0
	for range 20_000 {
		b := encoded(t, drawEvent(&d))
		for range 1 + d.n(2) {
			b[d.n(len(b))] = byte([]int{d.n(16), d.n(256)}[d.n(2)])
		}
		e, ok := plainDecode(b)
		if ok {
			known++
			wantEvent(t, b, e)
		} else {
			unknown++
			wantNoEvent(t, b)
		}
	}
	if known < 3000 || unknown < 3000 {
		t.Error("too few of a kind", known, unknown)
	}
}

// plainDecode reads by the library's varints, and asks for the least length of each number and for all that Check asks.
func plainDecode(b []byte) (event.Event, bool) {
	if len(b) < 4 {
		return event.Event{}, false
	}
	e := event.Event{Proc: int(b[0]), Type: int(b[1]), Key: int(b[2]), Kind: int(b[3])}
	b = b[4:]
	for _, to := range []*int{&e.A, &e.B, &e.Result} {
		v, n := binary.Varint(b)
		if n <= 0 || n > 1 && b[n-1] == 0 {
			return event.Event{}, false
		}
		*to, b = int(v), b[n:]
	}
	return e, len(b) == 0 && event.Check(e) == nil
}

// Rule P4: nothing that is handed in is written into, what comes out is the caller's.
func TestCodesShareNothing(t *testing.T) {
	e := codes[8].what
	b := encoded(t, e)
	clear(b)
	if again := encoded(t, e); !bytes.Equal(again, codes[8].want) {
		t.Error("an answer lies in memory that is used again", again)
	}
	room := append(slices.Clone(codes[8].want), 1, 2, 3)
	record.Decode(room[:len(codes[8].want)])
	if !bytes.Equal(room, append(slices.Clone(codes[8].want), 1, 2, 3)) {
		t.Error("Decode wrote into what it was given", room)
	}
}
