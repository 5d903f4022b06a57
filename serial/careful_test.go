package serial_test

import (
	"testing"

	"testimony/serial"
)

// The kinds that there are, from the most careful one on.
var (
	strict   = serial.Kind{Recover: true, Clean: true, Strict: true}
	clean    = serial.Kind{Recover: true, Clean: true}
	recovers = serial.Kind{Recover: true}
	careless = serial.Kind{}
)

func checkCareful(t *testing.T, want serial.Kind, texts ...string) {
	t.Helper()
	for _, text := range texts {
		if kind, err := serial.Careful(steps(text)); kind != want || err != nil {
			t.Errorf("%s: %v, %v, not %v", text, kind, err, want)
		}
	}
}

// 11.4: nothing of another one's is found that is not over.
func TestStrict(t *testing.T) {
	checkCareful(t, strict, "", "c0", "a0", "r0x0", "w0x0", "w0x0 c0")
	checkCareful(t, strict, "w0x0 r0x0 w0x0 c0", "w0x0 r0x0", "w0x0 w0x0 a0")                  // its own
	checkCareful(t, strict, "w0x0 c0 r1x0 w1x0 c1", "w0x0 c0 w1x0", "w0x0 c0 w1x0 a1 r2x0 c2") // over: it committed
	checkCareful(t, strict, "w0x0 a0 r1x0 w1x0 c1", "w0x0 a0 w1x0", "w0x0 w0x0 a0 r1x0 c1")    // over: it aborted
	checkCareful(t, strict, "w0x0 r1x1 w1x2 c1 c0", "w0x7 w1x6 r2x5")                          // other keys
	checkCareful(t, strict, "r0x0 r1x0 w1x0 c1 c0", "r0x0 w1x0", "r0x0 w1x0 c1 w0x0 c0")       // what is read is not written
	checkCareful(t, strict, "r0x0 c0 w1x0", "r1x0 w0x0 c0 c1")
}

// 11.4: a Write finds what is open: no longer Strict, but Clean.
func TestClean(t *testing.T) {
	checkCareful(t, clean, "w0x0 w1x0", "w0x0 w1x0 c0 c1", "w0x0 w1x0 c1 c0", "w0x0 w1x0 a0 a1", "w0x0 w1x0 a0 c1", "w0x0 w1x0 c1 a0")
	checkCareful(t, clean, "w0x0 w1x0 r1x0 c1 c0") // the Read finds its own
	checkCareful(t, clean, "w0x0 w1x0 c1 r2x0 c2") // that of one that is over is last
	checkCareful(t, clean, "w0x7 r7x6 w7x7")
}

// 11.4: a Read finds what is open: not Clean; it can recover, if the reader commits behind the writer, or does not.
func TestRecovers(t *testing.T) {
	checkCareful(t, recovers, "w0x0 r1x0", "w0x0 r1x0 c0", "w0x0 r1x0 a0", "w0x0 r1x0 a1", "w0x0 r1x0 a1 c0", "w0x0 r1x0 a0 a1", "w0x0 r1x0 a1 a0", "w0x0 r1x0 c0 c1", "w0x0 r1x0 c0 a1")
	checkCareful(t, recovers, "w0x0 r1x0 w1x1 r2x1 c0 c1 c2", "w7x7 r6x7 c7 c6")
}

// 11.4: the reader commits, and the writer does not, or behind it.
func TestCareless(t *testing.T) {
	checkCareful(t, careless, "w0x0 r1x0 c1", "w0x0 r1x0 c1 c0", "w0x0 r1x0 c1 a0", "w0x0 r1x0 a0 c1")
	checkCareful(t, careless, "w0x0 r1x0 w1x1 r2x1 c0 c2 c1", "w0x0 r1x0 r2x0 c0 c1 w3x3 r4x3 c4")
	checkCareful(t, careless, "w0x0 r1x0 c1 w2x2 r3x2 c2 c3", "w2x2 r3x2 c2 c3 w0x0 r1x0 c1") // one that can't is enough
	checkCareful(t, careless, "w7x7 r6x7 c6")
}

// 11.4: the last Write whose transaction did not abort ahead: what that one wrote is gone, and what was there ahead of it is found again.
func TestCarefulGone(t *testing.T) {
	checkCareful(t, clean, "w0x0 w1x0 a1", "w0x0 w1x0 a1 c0 r2x0 c2")
	checkCareful(t, careless, "w0x0 w1x0 a1 r2x0 c2", "w0x0 w1x0 a1 r2x0 c2 c0")
	checkCareful(t, recovers, "w0x0 w1x0 a1 r2x0 c0 c2", "w0x0 w1x0 w1x0 w3x0 a3 a1 r2x0 c0 c2")
	checkCareful(t, clean, "w0x0 w1x0 a1 r0x0 c0")               // its own is found again
	checkCareful(t, strict, "w0x0 c0 w1x0 a1 r2x0 w2x0 c2")      // that of one that is over is found again
	checkCareful(t, clean, "w0x0 w1x0 a0 r1x0 c1")               // what is gone lay ahead
	checkCareful(t, careless, "w0x0 r1x0 a0 c1")                 // it was there then
	checkCareful(t, clean, "w0x0 w1x0 a0 w1x0 c1 r2x0 c2")       // the second Write of 1 finds its own
	checkCareful(t, recovers, "w0x0 r1x0 a0 r1x0 a1 r2x0 c2")    // none is left
	checkCareful(t, strict, "w0x0 w0x1 a0 r1x0 r1x1 w1x0 c1 c2") // of each key
}
