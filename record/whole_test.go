package record_test

import (
	"slices"
	"testing"

	"testimony/event"
	"testimony/record"
)

// history is a log of drawn events, made sure now and then; sure: how many events are.
func history(t *testing.T, d *die) (log *record.Log, l []event.Event, sure int) {
	log = &record.Log{}
	for range d.n(12) {
		e := drawEvent(d)
		if err := log.Add(e); err != nil {
			t.Fatal(err)
		}
		l = append(l, e)
		if d.n(4) == 0 {
			log.Sync()
			sure = len(l)
		}
	}
	return log, l, sure
}

// The whole's point 11: a crash loses an end alone, and nothing that is sure, whatever keep and torn are.
func TestACrashLosesAnEndAlone(t *testing.T) {
	d := die(7)
	lost, stayed := 0, 0
	for range 400 {
		log, l, sure := history(t, &d)
		all, safe := log.Size()
		for keep := range all - safe + 1 {
			torn := make([]byte, d.n(6))
			for i := range torn {
				torn[i] = byte(d.n(256))
			}
			b, err := log.Crash(keep, torn)
			if err != nil {
				t.Fatal(err)
			}
			got, n := record.Recover(b)
			if len(got) < sure || len(got) > len(l) || !slices.Equal(got, l[:len(got)]) {
				t.Fatalf("of %v, %d sure, %v are left", l, sure, got)
			}
			if n < safe || n > len(b) {
				t.Fatal("so many bytes:", n, safe, len(b))
			}
			if len(got) < len(l) {
				lost++
			} else {
				stayed++
			}
		}
	}
	if lost < 1000 || stayed < 300 {
		t.Error("too few of a kind", lost, stayed)
	}
}

// The whole's point 11: one byte that turned, whichever and however, is seen: of its frame, and behind it, nothing is told.
func TestOneByteThatTurnedIsSeen(t *testing.T) {
	d := die(8)
	for range 12 {
		log, l, _ := history(t, &d)
		log.Sync()
		b, _ := log.Crash(0, nil)
		frame, at := 0, 0
		for i := range b {
			if _, n := record.Recover(b[:i+1]); n > at && n == i+1 {
				// The byte behind which a frame is whole is its last one.
				wantTurnSeen(t, b, i, l[:frame], at)
				frame, at = frame+1, n
				continue
			}
			wantTurnSeen(t, b, i, l[:frame], at)
		}
		if frame != len(l) {
			t.Fatal("so many frames:", frame, len(l))
		}
	}
}

// wantTurnSeen turns a byte in each way that there is: only what is ahead of its frame may be told.
func wantTurnSeen(t *testing.T, b []byte, i int, ahead []event.Event, bytes int) {
	t.Helper()
	for turn := 1; turn < 256; turn++ {
		b[i] ^= byte(turn)
		wantRecovered(t, b, ahead, bytes)
		b[i] ^= byte(turn)
	}
}

// What was recovered can be written again, to the same bytes.
func TestWhatIsRecoveredIsWrittenAgain(t *testing.T) {
	d := die(9)
	for range 200 {
		log, l, _ := history(t, &d)
		all, safe := log.Size()
		b, _ := log.Crash(all-safe, nil)
		got, n := record.Recover(b)
		if !slices.Equal(got, l) || n != len(b) {
			t.Fatal(got, l, n)
		}
		again := added(t, got...)
		wantLeft(t, again, all, nil, b)
	}
}

// A history that is dealt to recorders comes together as it was, whoever had which.
func TestStripesComeTogether(t *testing.T) {
	d := die(10)
	for range 500 {
		l := make([]event.Event, d.n(40))
		s := make([]record.Stripe, 1+d.n(4))
		ticket := d.n(9) - 20
		for i := range l {
			l[i] = drawEvent(&d)
			to := &s[d.n(len(s))]
			to.Tickets, to.Events = append(to.Tickets, ticket), append(to.Events, l[i])
			ticket += 1 + d.n(3)
		}
		if got, err := record.Merge(s); err != nil || !slices.Equal(got, l) {
			t.Fatal(got, err, l)
		}
		slices.Reverse(s)
		if got, err := record.Merge(s); err != nil || !slices.Equal(got, l) {
			t.Fatal(got, err, l)
		}
	}
}
