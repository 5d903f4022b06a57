package record

import (
	"bytes"

	"testimony/event"
)

// head is how many bytes of a frame are ahead of its payload: two of its length, four of its CRC-32.
const head = 6

// divisor is that of IEEE 802.3, its bits the other way round, as bytes go in from their lowest bit on.
const divisor = 0xEDB88320

// Frame is a payload's frame.
func Frame(payload []byte) []byte {
	n, sum := len(payload), crc(payload)
	b := make([]byte, 0, head+n)
	b = append(b, byte(n>>8), byte(n))
	b = append(b, byte(sum>>24), byte(sum>>16), byte(sum>>8), byte(sum))
	return append(b, payload...)
}

// crc is the CRC-32 of some bytes.
func crc(b []byte) uint32 {
	rest := ^uint32(0)
	for _, c := range b {
		rest ^= uint32(c)
		for range 8 {
			out := rest & 1
			rest = rest>>1 ^ out*divisor
		}
	}
	return ^rest
}

// Recover is the events of the longest beginning that is whole frames of events (each whose CRC-32 is right); and how many bytes that is.
func Recover(b []byte) ([]event.Event, int) {
	var l []event.Event
	whole := 0
	for {
		e, n, ok := first(b[whole:])
		if !ok {
			return l, whole
		}
		l, whole = append(l, e), whole+n
	}
}

// first is the event of the frame that b begins with, and how many bytes that frame is; ok: b begins with one.
// Decode knows no payload of 2^16 bytes or more, so the length that is told is the only one.
func first(b []byte) (e event.Event, n int, ok bool) {
	if len(b) < head {
		return event.Event{}, 0, false
	}
	n = head + int(b[0])<<8 + int(b[1])
	if len(b) < n {
		return event.Event{}, 0, false
	}
	payload := b[head:n]
	e, err := Decode(payload)
	if err != nil || !bytes.Equal(Frame(payload), b[:n]) {
		return event.Event{}, 0, false
	}
	return e, n, true
}
