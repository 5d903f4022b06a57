package record

import (
	"bytes"

	"testimony/api"
	"testimony/event"
)

// more is in each byte of a number but the last one.
const more = 128

// Encode is an event's bytes: process, type, key, kind (a byte each), then A, B, Result, each as binary.AppendVarint writes it.
func Encode(e event.Event) ([]byte, error) {
	if err := event.Check(e); err != nil {
		return nil, err
	}
	b := []byte{byte(e.Proc), byte(e.Type), byte(e.Key), byte(e.Kind)}
	for _, n := range [...]int{e.A, e.B, e.Result} {
		b = appendNumber(b, n)
	}
	return b, nil
}

// appendNumber writes a number behind b.
func appendNumber(b []byte, n int) []byte {
	u := uint64(n) << 1
	if n < 0 {
		u = ^u
	}
	for ; u >= more; u >>= 7 {
		b = append(b, byte(u)|more)
	}
	return append(b, byte(u))
}

// Decode is the event of just these bytes; ErrForm: they are not what Encode makes of one.
func Decode(b []byte) (event.Event, error) {
	e, ok := read(b)
	if !ok {
		return event.Event{}, api.ErrForm
	}
	// What is written anew tells of numbers that are too long, too great, or not all that is there.
	again, err := Encode(e)
	if err != nil || !bytes.Equal(again, b) {
		return event.Event{}, api.ErrForm
	}
	return e, nil
}

// read is the event that b begins with, whether or not it may be; ok: b is long enough for one.
func read(b []byte) (e event.Event, ok bool) {
	if len(b) < 4 {
		return event.Event{}, false
	}
	e = event.Event{Proc: int(b[0]), Type: int(b[1]), Key: int(b[2]), Kind: int(b[3])}
	b = b[4:]
	for _, n := range [...]*int{&e.A, &e.B, &e.Result} {
		if *n, b, ok = readNumber(b); !ok {
			return event.Event{}, false
		}
	}
	return e, true
}

// readNumber is the number that b begins with, and what is behind it; ok: it comes to its end. Bits beyond 64 are lost.
func readNumber(b []byte) (n int, rest []byte, ok bool) {
	var u uint64
	for i, c := range b {
		u |= uint64(c%more) << (7 * uint(i))
		if c < more {
			return int(u>>1) ^ -int(u&1), b[i+1:], true
		}
	}
	return 0, nil, false
}
