package record_test

import (
	"bytes"
	"encoding/binary"
	"hash/crc32"
	"slices"
	"testing"

	"testimony/api"
	"testimony/event"
	"testimony/record"
)

// framed is 18.2's frame by the library.
func framed(payload []byte) []byte {
	b := binary.BigEndian.AppendUint16(nil, uint16(len(payload)%65536))
	b = binary.BigEndian.AppendUint32(b, crc32.ChecksumIEEE(payload))
	return append(b, payload...)
}

// Promise 18.2.
func TestFramesByHand(t *testing.T) {
	for _, c := range []struct {
		payload string
		want    []byte
	}{
		{"", []byte{0, 0, 0, 0, 0, 0}},
		{"\x00", []byte{0, 1, 0xD2, 0x02, 0xEF, 0x8D, 0}},
		{"a", []byte{0, 1, 0xE8, 0xB7, 0xBE, 0x43, 'a'}},
		{"123456789", []byte("\x00\x09\xCB\xF4\x39\x26123456789")},
		{"The quick brown fox jumps over the lazy dog", []byte("\x00\x2B\x41\x4F\xA3\x39The quick brown fox jumps over the lazy dog")},
	} {
		if b := record.Frame([]byte(c.payload)); !bytes.Equal(b, c.want) {
			t.Errorf("%q: %v, not %v", c.payload, b, c.want)
		}
	}
	if b := record.Frame(nil); !bytes.Equal(b, make([]byte, 6)) {
		t.Error(b)
	}
}

// Promise 18.2: the length is told modulo 2^16, the payload is there whole.
func TestFramesOfEachLength(t *testing.T) {
	d := die(3)
	for _, n := range []int{0, 1, 2, 3, 7, 255, 256, 257, 4000, 65535, 65536, 65537, 65536 + 256, 200_000} {
		payload := make([]byte, n)
		for i := range payload {
			payload[i] = byte(d.n(256))
		}
		if !bytes.Equal(record.Frame(payload), framed(payload)) {
			t.Error("another frame of so many bytes:", n)
		}
	}
}

// Rule P4.
func TestFrameSharesNothing(t *testing.T) {
	room := []byte("abcdefghijkl")
	f := record.Frame(room[:3])
	clear(f)
	if string(room) != "abcdefghijkl" {
		t.Error("Frame wrote into what it was given", room)
	}
	f = record.Frame(room[:3])
	clear(room)
	if !bytes.Equal(f, framed([]byte("abc"))) {
		t.Error("Frame keeps what it was given", f)
	}
}

// wantRecovered fails unless Recover tells these events, and so many bytes.
func wantRecovered(t *testing.T, b []byte, want []event.Event, whole int) {
	t.Helper()
	if l, n := record.Recover(b); !slices.Equal(l, want) || n != whole {
		t.Errorf("%v: %v of %d bytes, not %v of %d", b, l, n, want, whole)
	}
}

// Promise 18.2: what is no frame of an event ends what is recovered, and what stands behind is lost.
func TestRecoverEnds(t *testing.T) {
	e, more := codes[2].what, codes[7].what
	good, last := framed(codes[2].want), framed(codes[7].want)
	wantRecovered(t, nil, nil, 0)
	wantRecovered(t, []byte{}, nil, 0)
	wantRecovered(t, good, []event.Event{e}, 13)
	wantRecovered(t, slices.Concat(good, last, good), []event.Event{e, more, e}, 13+17+13)
	wrong := framed(codes[2].want)
	wrong[5] ^= 1
	short := framed(codes[2].want)
	short[1]--
	long := framed(codes[2].want)
	long[1]++
	for name, b := range map[string][]byte{
		"nothing":                 {},
		"one byte":                {0},
		"a head without its end":  good[:5],
		"a head alone":            good[:6],
		"all but one":             good[:12],
		"a wrong sum":             wrong,
		"a length too short":      short,
		"a length too long":       long,
		"a frame of nothing":      framed(nil),
		"an event and more":       framed(append(slices.Clone(codes[2].want), 0)),
		"less than an event":      framed(codes[2].want[:6]),
		"an event that can't be":  framed([]byte{0, 1, 0, 1, 0, 0, 2}),
		"a number in other bytes": framed([]byte{0, 1, 0, 1, 128, 0, 0, 0}),
		"two events in one frame": framed(slices.Concat(codes[2].want, codes[7].want)),
		"nought bytes":            make([]byte, 100),
		"a length beyond it all":  {255, 255, 0, 0, 0, 0, 1, 2, 3},
		"a sum's bytes turned":    {0, 7, good[5], good[4], good[3], good[2], 1, 2, 2, 3, 2, 4, 6},
		"a length's bytes turned": {7, 0, good[2], good[3], good[4], good[5], 1, 2, 2, 3, 2, 4, 6},
	} {
		t.Run(name, func(t *testing.T) {
			wantRecovered(t, b, nil, 0)
			wantRecovered(t, slices.Concat(good, last, b), []event.Event{e, more}, 30)
			if len(b) > 12 || len(b) == 0 {
				return
			}
			// Of a frame that is cut, what is behind it may not be taken for its end.
			wantRecovered(t, slices.Concat(good, b, make([]byte, 30)), []event.Event{e}, 13)
		})
	}
	wantRecovered(t, slices.Concat(good, wrong, good), []event.Event{e}, 13)
	wantRecovered(t, slices.Concat(good, framed(nil), good), []event.Event{e}, 13)
}

// Promise 18.2: a payload whose length is told modulo 2^16 is none that Decode knows.
func TestRecoverOfALongPayload(t *testing.T) {
	payload := slices.Concat(codes[2].want, make([]byte, 65536))
	wantRecovered(t, record.Frame(payload), nil, 0)
	wantRecovered(t, slices.Concat(framed(codes[2].want), record.Frame(payload)), []event.Event{codes[2].what}, 13)
	wantRecovered(t, record.Frame(make([]byte, 65536)), nil, 0)
}

// Promise 18.2: of any bytes; more events than a log has may be there, too.
func TestRecoverMoreThanALogHas(t *testing.T) {
	d := die(4)
	var b []byte
	var want []event.Event
	for range 3 * api.MaxEvents {
		e := drawEvent(&d)
		b, want = append(b, framed(encoded(t, e))...), append(want, e)
	}
	wantRecovered(t, b, want, len(b))
	wantRecovered(t, append(slices.Clone(b), 0, 7, 1), want, len(b))
}

// plainRecover is 18.2 word by word: of all beginnings, the longest that is frames.
func plainRecover(b []byte) ([]event.Event, int) {
	for n := len(b); n > 0; n-- {
		if l, ok := allFrames(b[:n]); ok {
			return l, n
		}
	}
	return nil, 0
}

// allFrames is the events of frames that are all of b: the first one may end at any place.
func allFrames(b []byte) ([]event.Event, bool) {
	if len(b) == 0 {
		return nil, true
	}
	for n := 6; n <= min(len(b), 6+20); n++ {
		e, ok := plainDecode(b[6:n])
		if !ok || !bytes.Equal(framed(b[6:n]), b[:n]) {
			continue
		}
		if l, ok := allFrames(b[n:]); ok {
			return append([]event.Event{e}, l...), true
		}
	}
	return nil, false
}

// Promise 18.2: against its words done plainly.
func TestRecoverOfDrawnBytes(t *testing.T) {
	d := die(5)
	some, cut := 0, 0
	for range 1500 {
		var b []byte
		for range d.n(6) {
			switch d.n(9) {
			case 0:
				b = append(b, framed(make([]byte, d.n(9)))...)
			case 1:
				b = append(b, byte(d.n(256)))
			case 2:
				f := framed(encoded(t, drawEvent(&d)))
				b = append(b, f[:d.n(len(f))]...)
			default:
				b = append(b, framed(encoded(t, drawEvent(&d)))...)
			}
		}
		if len(b) > 0 && d.n(4) == 0 {
			b[d.n(len(b))] ^= 1 << d.n(8)
		}
		l, n := plainRecover(b)
		wantRecovered(t, b, l, n)
		if len(l) > 1 {
			some++
		}
		if n < len(b) {
			cut++
		}
	}
	if some < 300 || cut < 300 {
		t.Error("too few of a kind", some, cut)
	}
}

// Rule P4.
func TestRecoverWritesNothing(t *testing.T) {
	room := slices.Concat(framed(codes[2].want), framed(codes[7].want), []byte{9, 9, 9})
	was := slices.Clone(room)
	l, _ := record.Recover(room[:13])
	if !bytes.Equal(room, was) {
		t.Error("Recover wrote into what it was given")
	}
	clear(room)
	if !slices.Equal(l, []event.Event{codes[2].what}) {
		t.Error("Recover keeps what it was given", l)
	}
}
