package mvcc_test

import (
	"fmt"
	"slices"
	"strings"
	"testing"

	"testimony/api"
	"testimony/isolate"
	"testimony/mvcc"
)

// example is what is asked for of a base of three transactions, which words are refused with which number, and what is told then.
type example struct{ text, faults, story, spans string }

func (e example) check(t *testing.T, careful bool) {
	t.Helper()
	b, faults := based(t, 3, careful, e.text)
	if story, spans := storyText(b.Story()), fmt.Sprint(b.Spans()); faults != e.faults || story != e.story || spans != e.spans {
		t.Errorf("%s (careful: %v): %q, %s, %s, not %q, %s, %s", e.text, careful, faults, story, spans, e.faults, e.story, e.spans)
	}
}

// checkBoth asks a base that is careful and one that isn't.
func checkBoth(t *testing.T, examples []example) {
	t.Helper()
	for _, e := range examples {
		e.check(t, false)
		e.check(t, true)
	}
}

// 14.1: the time is one more with all that is done, from 0; Begin, Write, Abort.
func TestTime(t *testing.T) {
	checkBoth(t, []example{
		{"", "", "; ;  | ", "[[-1 -1] [-1 -1] [-1 -1]]"},
		{"b0", "", "; ;  | ", "[[1 -1] [-1 -1] [-1 -1]]"},
		{"b2 b0 b1", "", "; ;  | ", "[[2 -1] [3 -1] [1 -1]]"},
		{"b1 c1", "", "; !;  | ", "[[-1 -1] [1 2] [-1 -1]]"},
		{"b1 a1 b0", "", "; ;  | ", "[[3 -1] [1 -1] [-1 -1]]"},
		{"b0 w0x7 w0x0 w0x7", "", "w7 w0 w7; ;  | ", "[[1 -1] [-1 -1] [-1 -1]]"},
		{"b0 r0x3 w0x4 b1 c0 c1", "", "r3=- w4 !; !;  | x4[0]", "[[1 5] [4 6] [-1 -1]]"},
		{"b0 w0x4 a0 b1 c1", "", "w4; !;  | ", "[[1 -1] [4 5] [-1 -1]]"},
		{"c0 b0 b0 r1x0 b1 c1 c1 b2", "c0:6 b0:6 r1x0:6 c1:6", "; !;  | ", "[[1 -1] [2 3] [4 -1]]"},
		{"b0 b1 w0x0 w1x0 c0 c1 b2", "c1:12", "w0 !; w0;  | x0[0]", "[[1 5] [2 -1] [7 -1]]"},
	})
}

// 14.1: Read: its own last version, or the last one that was committed ahead of its begin, or what was there at first.
func TestRead(t *testing.T) {
	checkBoth(t, []example{
		{"b0 r0x3 r0x3", "", "r3=- r3=-; ;  | ", "[[1 -1] [-1 -1] [-1 -1]]"},
		{"b0 w0x0 r0x0 w0x0 r0x0 r0x1", "", "w0 r0=0.0 w0 r0=0.1 r1=-; ;  | ", "[[1 -1] [-1 -1] [-1 -1]]"},
		{"b2 w2x0 r2x0", "", "; ; w0 r0=2.0 | ", "[[-1 -1] [-1 -1] [1 -1]]"},
		{"b0 w0x0 w0x0 c0 b1 r1x0", "", "w0 w0 !; r0=0.1;  | x0[0]", "[[1 4] [5 -1] [-1 -1]]"},
		{"b0 w0x0 w0x1 w0x0 c0 b1 r1x1 r1x0 r1x2", "", "w0 w1 w0 !; r1=0.0 r0=0.1 r2=-;  | x0[0] x1[0]", "[[1 5] [6 -1] [-1 -1]]"},
		{"b0 b1 w0x0 c0 r1x0", "", "w0 !; r0=-;  | x0[0]", "[[1 4] [2 -1] [-1 -1]]"},
		{"b0 w0x0 b1 r1x0 c0 r1x0 c1 b2 r2x0", "", "w0 !; r0=- r0=- !; r0=0.0 | x0[0]", "[[1 5] [3 7] [8 -1]]"},
		{"b0 w0x0 a0 b1 r1x0", "", "w0; r0=-;  | ", "[[1 -1] [4 -1] [-1 -1]]"},
		{"b0 w0x0 c0 b1 w1x0 c1 b2 r2x0", "", "w0 !; w0 !; r0=1.0 | x0[0 1]", "[[1 3] [4 6] [7 -1]]"},
		{"b1 w1x0 c1 b0 w0x0 c0 b2 r2x0", "", "w0 !; w0 !; r0=0.0 | x0[1 0]", "[[4 6] [1 3] [7 -1]]"},
		{"b0 w0x0 c0 b1 w1x0 b2 c1 r2x0", "", "w0 !; w0 !; r0=0.0 | x0[0 1]", "[[1 3] [4 7] [6 -1]]"},
		{"b0 w0x0 c0 b1 r1x0 w1x0 r1x0 r1x0 w1x0 r1x0", "", "w0 !; r0=0.0 w0 r0=1.0 r0=1.0 w0 r0=1.1;  | x0[0]", "[[1 3] [4 -1] [-1 -1]]"},
		{"b0 b1 w0x0 w1x0 w1x1 c0 c1 b2 r2x0 r2x1", "c1:12", "w0 !; w0 w1; r0=0.0 r1=- | x0[0]", "[[1 6] [2 -1] [8 -1]]"},
	})
}

// 14.2: the first one wins; who does not commit, or committed ahead, or wrote something else, stands against nobody.
func TestFirstWins(t *testing.T) {
	checkBoth(t, []example{
		{"b0 b1 w0x0 w1x0 c1 c0", "c0:12", "w0; w0 !;  | x0[1]", "[[1 -1] [2 5] [-1 -1]]"},
		{"b0 b1 w0x0 w1x0 c0 c1", "c1:12", "w0 !; w0;  | x0[0]", "[[1 5] [2 -1] [-1 -1]]"},
		{"b0 b1 w1x0 c1 w0x0 c0", "c0:12", "w0; w0 !;  | x0[1]", "[[1 -1] [2 4] [-1 -1]]"},
		{"b0 b1 w0x1 w0x2 w0x7 w1x5 w1x7 c1 c0", "c0:12", "w1 w2 w7; w5 w7 !;  | x5[1] x7[1]", "[[1 -1] [2 8] [-1 -1]]"},
		{"b0 w0x0 c0 b1 w1x0 c1", "", "w0 !; w0 !;  | x0[0 1]", "[[1 3] [4 6] [-1 -1]]"},
		{"b0 w0x0 b1 w1x0 a1 c0", "", "w0 !; w0;  | x0[0]", "[[1 6] [3 -1] [-1 -1]]"},
		{"b0 w0x0 b1 w1x0 c0", "", "w0 !; w0;  | x0[0]", "[[1 5] [3 -1] [-1 -1]]"},
		{"b0 b1 w0x0 w1x1 c1 c0", "", "w0 !; w1 !;  | x0[0] x1[1]", "[[1 6] [2 5] [-1 -1]]"},
		{"b0 b1 w0x0 r1x0 c0 c1", "", "w0 !; r0=- !;  | x0[0]", "[[1 5] [2 6] [-1 -1]]"},
		{"b0 b1 r0x0 w1x0 c1 c0", "", "r0=- !; w0 !;  | x0[1]", "[[1 6] [2 5] [-1 -1]]"},
		{"b0 b1 b2 w0x0 w1x0 w1x1 w2x1 c0 c1 c2", "c1:12", "w0 !; w0 w1; w1 ! | x0[0] x1[2]", "[[1 8] [2 -1] [3 10]]"},
		{"b0 b1 b2 w0x0 w1x0 w2x0 c2 c0 c1", "c0:12 c1:12", "w0; w0; w0 ! | x0[2]", "[[1 -1] [2 -1] [3 7]]"},
		{"b0 w0x0 c0 b1 b2 w2x0 c2 w1x0 c1", "c1:12", "w0 !; w0; w0 ! | x0[0 2]", "[[1 3] [4 -1] [5 7]]"},
		{"b0 b1 w1x0 c1 b2 w2x0 c2 w0x0 c0", "c0:12", "w0; w0 !; w0 ! | x0[1 2]", "[[1 -1] [2 4] [5 7]]"},
	})
}

// 14.2: a careful base: who points at one and is pointed at, and those beside it.
func TestCareful(t *testing.T) {
	for _, e := range []example{
		{"b0 b1 r0x0 r1x1 w0x1 w1x0 c0 c1", "c1:12", "r0=- w1 !; r1=- w0;  | x1[0]", "[[1 7] [2 -1] [-1 -1]]"},
		{"b0 b1 r0x0 r1x1 w0x1 w1x0 c1 c0", "c0:12", "r0=- w1; r1=- w0 !;  | x0[1]", "[[1 -1] [2 7] [-1 -1]]"},
		{"b0 b1 r0x0 w0x1 c0 r1x1 w1x0 c1", "c1:12", "r0=- w1 !; r1=- w0;  | x1[0]", "[[1 5] [2 -1] [-1 -1]]"},
		{"b0 b1 w0x1 r0x0 w1x0 r1x1 c0 c1", "c1:12", "w1 r0=- !; w0 r1=-;  | x1[0]", "[[1 7] [2 -1] [-1 -1]]"},
		{"b2 w2x0 w2x1 c2 b0 b1 r0x0 r1x1 w0x1 w1x0 c0 c1", "c1:12", "r0=2.0 w1 !; r1=2.0 w0; w0 w1 ! | x0[2] x1[2 0]", "[[5 11] [6 -1] [1 4]]"},
		{"b0 b1 r0x0 r1x1 w0x1 w1x0 c0 c1 b2 r2x0 w2x0 r2x1 w2x1 c2", "c1:12", "r0=- w1 !; r1=- w0; r0=- w0 r1=0.0 w1 ! | x0[2] x1[0 2]", "[[1 7] [2 -1] [9 14]]"},
		{"b0 b1 r0x0 r1x1 w0x1 w1x0 c0 b2 c1 r2x0 w2x2 c2", "c1:12", "r0=- w1 !; r1=- w0; r0=- w2 ! | x1[0] x2[2]", "[[1 7] [2 -1] [8 12]]"},
	} {
		e.check(t, true)
	}
}

// 14.2: a careful base lets all commit where nobody both points at one and is pointed at.
func TestCarefulLets(t *testing.T) {
	checkBoth(t, []example{
		{"b0 b1 r0x0 w1x0 c0 c1", "", "r0=- !; w0 !;  | x0[1]", "[[1 5] [2 6] [-1 -1]]"},
		{"b0 b1 r0x0 w1x0 c1 c0", "", "r0=- !; w0 !;  | x0[1]", "[[1 6] [2 5] [-1 -1]]"},
		{"b0 b1 b2 r0x0 r1x0 w2x0 c0 c2 c1", "", "r0=- !; r0=- !; w0 ! | x0[2]", "[[1 7] [2 9] [3 8]]"},
		{"b0 b1 b2 r0x0 r0x1 w1x0 w2x1 c0 c2 c1", "", "r0=- r1=- !; w0 !; w1 ! | x0[1] x1[2]", "[[1 8] [2 10] [3 9]]"},
		{"b0 b1 r0x0 w1x0 r1x1 c0 c1 b2 w2x1 c2", "", "r0=- !; w0 r1=- !; w1 ! | x0[1] x1[2]", "[[1 6] [2 7] [8 10]]"},
		{"b0 r0x0 c0 b1 b2 w1x0 r1x1 w2x1 c1 c2", "", "r0=- !; w0 r1=- !; w1 ! | x0[1] x1[2]", "[[1 3] [4 9] [5 10]]"},
		{"b0 b1 b2 r0x0 w1x0 r1x1 w2x1 c0 c1 a2", "", "r0=- !; w0 r1=- !; w1 | x0[1]", "[[1 8] [2 9] [3 -1]]"},
		{"b0 b1 b2 r0x0 w1x0 r1x1 w2x1 c2 c1", "", "r0=-; w0 r1=- !; w1 ! | x0[1] x1[2]", "[[1 -1] [2 9] [3 8]]"},
		{"b0 b1 b2 r0x0 w1x0 r1x1 w2x1 a1 c2 c0", "", "r0=- !; w0 r1=-; w1 ! | x1[2]", "[[1 10] [2 -1] [3 9]]"},
		{"b0 r0x0 w0x0 r0x1 w0x1 r0x0 c0", "", "r0=- w0 r1=- w1 r0=0.0 !; ;  | x0[0] x1[0]", "[[1 7] [-1 -1] [-1 -1]]"},
		{"b0 r0x0 w0x1 c0 b1 r1x1 w1x0 c1 b2 r2x0 r2x1 c2", "", "r0=- w1 !; r1=0.0 w0 !; r0=1.0 r1=0.0 ! | x0[1] x1[0]", "[[1 4] [5 8] [9 12]]"},
	})
}

// 14.2: of three, each of whom points at the next one, the last one to commit does not, whichever it is, though nothing goes round.
func TestCarefulChain(t *testing.T) {
	for _, order := range []string{"c0 c1 c2", "c0 c2 c1", "c1 c0 c2", "c1 c2 c0", "c2 c0 c1", "c2 c1 c0"} {
		text := "b0 b1 b2 r0x0 w1x0 r1x1 w2x1 " + order
		if b, faults := based(t, 3, true, text); faults != order[6:]+":12" {
			t.Errorf("%s: %s, %s", text, faults, all(b))
		}
		b, faults := based(t, 3, false, text)
		if level, err := isolate.Level(b.Story()); faults != "" || level != 3 || err != nil {
			t.Errorf("%s: %s, %s, %d, %v", text, faults, all(b), level, err)
		}
	}
}

// A base that is not careful lets two commit that go round, and one that only reads can be what makes them go round (FEKETE, O'NEIL and O'NEIL).
func TestCareless(t *testing.T) {
	for text, want := range map[string]int{
		"b0 b1 r0x0 r1x1 w0x1 w1x0 c0 c1":                                     2,
		"b1 r1x0 r1x1 b0 r0x1 w0x1 c0 b2 r2x0 r2x1 c2 w1x0 c1":                2,
		"b1 r1x0 r1x1 b0 r0x1 w0x1 c0 w1x0 c1":                                3,
		"b0 b1 b2 r0x0 w0x1 r1x1 w1x2 r2x2 w2x0 c0 c1 c2":                     2,
		"b0 r0x0 w0x1 b1 c0 r1x1 w1x2 b2 c1 r2x2 w2x3 c2":                     3,
		"b0 w0x0 c0 b1 r1x0 w1x0 c1 b2 r2x0 w2x0 c2":                          3,
		"b0 b1 r0x0 r0x1 r1x0 r1x1 w0x0 w1x1 c0 c1 b2 r2x0 r2x1 w2x0 w2x1 c2": 2,
	} {
		b, faults := based(t, 3, false, text)
		if level, err := isolate.Level(b.Story()); faults != "" || level != want || err != nil {
			t.Errorf("%s: %s, %s: level %d, %v", text, faults, all(b), level, err)
		}
		b, faults = based(t, 3, true, text)
		if level, err := isolate.Level(b.Story()); level != 3 || err != nil || want == 2 && !strings.Contains(faults, ":12") {
			t.Errorf("%s: %s, %s: level %d, %v", text, faults, all(b), level, err)
		}
	}
}

// 14.2: ErrOld has no place.
func TestOldIsPlain(t *testing.T) {
	for _, text := range []string{"b0 b1 w0x0 w1x0 c0", "b0 b1 r0x0 r1x1 w0x1 w1x0 c0"} {
		b, _ := based(t, 2, true, text)
		if err := b.Do(mvcc.Ask{Tx: 1, Kind: mvcc.Commit}); err != error(api.ErrOld) {
			t.Errorf("%s: %#v", text, err)
		}
	}
}

// 14.3: a story is a copy: what is written into it changes nothing, its lists share nothing, and it stays as the base goes on.
func TestStoryIsCopy(t *testing.T) {
	b, _ := based(t, 4, false, "b0 w0x0 w0x1 w0x2 c0 b1 r1x0 w1x0 w1x1 c1 b2 w2x0 b3 w3x5 r3x5 r3x0")
	want := all(b)
	s, twin, spans := b.Story(), b.Story(), b.Spans()
	for tx := range s.Txs {
		_ = append(s.Txs[tx].Ops, isolate.Op{Key: 99})
		for n := range s.Txs[tx].Ops {
			s.Txs[tx].Ops[n] = isolate.Op{Key: 77}
		}
		s.Txs[tx].Commits = !s.Txs[tx].Commits
		spans[tx] = [2]int{55, 55}
	}
	for key := range s.Order {
		_ = append(s.Order[key], 99)
		for n := range s.Order[key] {
			s.Order[key][n] = 77
		}
	}
	if got := storyText(twin) + " | " + fmt.Sprint(b.Spans()); all(b) != want || got != want {
		t.Errorf("%s, %s, not %s", all(b), got, want)
	}
	for _, a := range asks("w2x1 r2x0 c2 r3x5 w3x0 c3") {
		_ = b.Do(a)
	}
	if got := storyText(twin); !strings.HasPrefix(want, got) {
		t.Errorf("%s, not %s", got, want)
	}
	if got := all(b); !strings.HasPrefix(got, "w0 w1 w2 !; r0=0.0 w0 w1 !; w0 w1 r0=2.0 !; w5 r5=3.0 r0=1.0 r5=3.0 w0 | x0[0 1 2] x1[0 1 2] x2[0] | ") {
		t.Errorf("%s", got)
	}
}

// 14.3: a nil Base has no transactions; nor has the zero value, which nothing panics on.
func TestNil(t *testing.T) {
	for _, b := range []*mvcc.Base{nil, {}} {
		for _, a := range []mvcc.Ask{{}, {Kind: mvcc.Begin}, {Kind: mvcc.Read, Key: 1}, {Kind: mvcc.Write}, {Kind: mvcc.Commit}, {Kind: mvcc.Abort}, {Kind: 9}, {Tx: -1, Key: -1}} {
			if err := b.Do(a); err != error(api.ErrRange) {
				t.Errorf("%v: %v", a, err)
			}
		}
		s := b.Story()
		if len(s.Txs) != 0 || len(b.Spans()) != 0 || isolate.Check(s) != nil || slices.ContainsFunc(s.Order, func(list []int) bool { return len(list) > 0 }) {
			t.Errorf("%v, %v", s, b.Spans())
		}
	}
}
