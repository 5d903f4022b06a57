package mvcc_test

import (
	"fmt"
	"math"
	"slices"
	"strconv"
	"strings"
	"testing"

	"testimony/api"
	"testimony/isolate"
	"testimony/mvcc"
)

// asks are those of a text: b0 is a Begin of transaction 0, r0x1 a Read of key 1, w0x1 a Write, c0 a Commit, a0 an Abort.
func asks(text string) []mvcc.Ask {
	var l []mvcc.Ask
	for _, word := range strings.Fields(text) {
		tx, key, _ := strings.Cut(word[1:], "x")
		a := mvcc.Ask{Kind: strings.IndexByte(" brwca", word[0])}
		a.Tx, _ = strconv.Atoi(tx)
		a.Key, _ = strconv.Atoi(key)
		l = append(l, a)
	}
	return l
}

// newBase is a base of that many transactions, which may be.
func newBase(t *testing.T, txs int, careful bool) *mvcc.Base {
	t.Helper()
	b, err := mvcc.New(txs, careful)
	if b == nil || err != nil {
		t.Fatalf("%d transactions: %v, %v", txs, b, err)
	}
	return b
}

// based is a base that was asked for what a text tells; faults are those of its words that were refused, with the error's number.
func based(t *testing.T, txs int, careful bool, text string) (b *mvcc.Base, faults string) {
	t.Helper()
	b = newBase(t, txs, careful)
	var words []string
	for n, a := range asks(text) {
		if err := b.Do(a); err != nil {
			words = append(words, strings.Fields(text)[n]+":"+strconv.Itoa(int(api.Tell(err))))
		}
	}
	return b, strings.Join(words, " ")
}

// storyText is a story as a text: w0 writes key 0, r0=1.2 reads version 2 that transaction 1 wrote of it, r0=- what was there at first, ! commits; then the lists of keys that have one.
func storyText(s isolate.Story) string {
	var txs, lists []string
	for _, tx := range s.Txs {
		var words []string
		for _, op := range tx.Ops {
			words = append(words, opText(op))
		}
		if tx.Commits {
			words = append(words, "!")
		}
		txs = append(txs, strings.Join(words, " "))
	}
	for key, list := range s.Order {
		if len(list) > 0 {
			lists = append(lists, fmt.Sprintf("x%d%v", key, list))
		}
	}
	return strings.Join(txs, "; ") + " | " + strings.Join(lists, " ")
}

func opText(op isolate.Op) string {
	switch {
	case op == isolate.Op{Write: true, Key: op.Key}:
		return fmt.Sprint("w", op.Key)
	case op == isolate.Op{Key: op.Key, From: -1}:
		return fmt.Sprint("r", op.Key, "=-")
	case op.Write:
		return fmt.Sprintf("%v?", op)
	}
	return fmt.Sprintf("r%d=%d.%d", op.Key, op.From, op.Number)
}

// all is all that a base tells.
func all(b *mvcc.Base) string { return fmt.Sprint(storyText(b.Story()), " | ", b.Spans()) }

// checkFault asks whether something is refused with want, without a place, once what a text tells was asked for, and whether nothing changes by it, the time neither.
func checkFault(t *testing.T, text string, wrong mvcc.Ask, want api.Errno) {
	t.Helper()
	for _, careful := range []bool{false, true} {
		b, _ := based(t, api.MaxTx, careful, text)
		twin, _ := based(t, api.MaxTx, careful, text)
		for range 2 {
			if err := b.Do(wrong); err != error(want) {
				t.Errorf("%s, then %v: %v (%#v), not %v", text, wrong, err, err, want)
			}
		}
		if all(b) != all(twin) {
			t.Errorf("%s, then %v: %s, not %s", text, wrong, all(b), all(twin))
		}
		for _, a := range asks("b7 r7x0 w7x0 c7") {
			if err := b.Do(a); err != nil || twin.Do(a) != nil || all(b) != all(twin) {
				t.Errorf("%s, then %v, then %v: %v, %s, not %s", text, wrong, a, err, all(b), all(twin))
			}
		}
	}
}

// The kinds' numbers are told by the document.
func TestKinds(t *testing.T) {
	if mvcc.Begin != 1 || mvcc.Read != 2 || mvcc.Write != 3 || mvcc.Commit != 4 || mvcc.Abort != 5 {
		t.Errorf("%d %d %d %d %d", mvcc.Begin, mvcc.Read, mvcc.Write, mvcc.Commit, mvcc.Abort)
	}
}

// 14.1: New: how many transactions there may be, and what is there at first.
func TestNew(t *testing.T) {
	for _, careful := range []bool{false, true} {
		for txs := range api.MaxTx + 1 {
			b := newBase(t, txs, careful)
			s, spans := b.Story(), b.Spans()
			if len(s.Txs) != txs || len(s.Order) != api.MaxKeys || isolate.Check(s) != nil || !slices.Equal(spans, slices.Repeat([][2]int{{-1, -1}}, txs)) {
				t.Errorf("%d transactions: %v, %v", txs, s, spans)
			}
			if txs > 0 && b.Do(mvcc.Ask{Tx: txs - 1, Kind: mvcc.Begin}) != nil {
				t.Errorf("%d transactions: the last one can't begin", txs)
			}
		}
		for _, txs := range []int{-1, api.MaxTx + 1, 1000, math.MaxInt, math.MinInt} {
			if b, err := mvcc.New(txs, careful); b != nil || err != error(api.ErrLimit) {
				t.Errorf("%d transactions: %v, %v", txs, b, err)
			}
		}
	}
}

// states are what may have been asked for ahead, of transaction 0: nothing, its begin, some steps, its ends.
var states = []string{"", "b0", "b0 w0x0 r0x1", "b0 w0x0 c0", "b0 a0", "b0 b1 w0x0 w1x0 c1 c0"}

// 14.1: ErrRange, told ahead of all else.
func TestRange(t *testing.T) {
	far := []int{-1, math.MinInt, math.MaxInt}
	for _, text := range states {
		for _, kind := range []int{-1, 0, mvcc.Begin, mvcc.Read, mvcc.Write, mvcc.Commit, mvcc.Abort, 6} {
			for _, n := range append(far, api.MaxTx) {
				checkFault(t, text, mvcc.Ask{Tx: n, Kind: kind}, api.ErrRange)
				checkFault(t, text, mvcc.Ask{Tx: n, Kind: kind, Key: n}, api.ErrRange)
			}
			for _, n := range append(far, api.MaxKeys) {
				checkFault(t, text, mvcc.Ask{Kind: kind, Key: n}, api.ErrRange)
			}
		}
	}
	for txs := range api.MaxTx {
		b := newBase(t, txs, false)
		if err := b.Do(mvcc.Ask{Tx: txs, Kind: mvcc.Begin}); err != error(api.ErrRange) {
			t.Errorf("%d transactions: one more begins: %v", txs, err)
		}
	}
}

// 14.1: ErrArg, told ahead of what is not now.
func TestArg(t *testing.T) {
	for _, text := range states {
		for _, key := range []int{0, 1, api.MaxKeys - 1} {
			for _, kind := range []int{0, -1, 6, math.MaxInt, math.MinInt} {
				checkFault(t, text, mvcc.Ask{Kind: kind, Key: key}, api.ErrArg)
			}
			if key == 0 {
				continue
			}
			for _, kind := range []int{mvcc.Begin, mvcc.Commit, mvcc.Abort} {
				checkFault(t, text, mvcc.Ask{Kind: kind, Key: key}, api.ErrArg)
			}
		}
	}
}

// 14.1: ErrState: not begun, begun already, over.
func TestState(t *testing.T) {
	for _, word := range []string{"r0x0", "r0x7", "w0x0", "w0x7", "c0", "a0"} {
		checkFault(t, "", asks(word)[0], api.ErrState)
		checkFault(t, "b1 w1x0", asks(word)[0], api.ErrState)
	}
	for _, text := range []string{"b0", "b0 b1", "b0 r0x0", "b0 w0x3"} {
		checkFault(t, text, asks("b0")[0], api.ErrState)
	}
	for _, text := range []string{"b0 c0", "b0 a0", "b0 w0x0 c0", "b0 w0x0 a0", "b0 b1 w0x0 w1x0 c1 c0"} {
		for _, word := range []string{"b0", "r0x0", "r0x7", "w0x0", "w0x7", "c0", "a0"} {
			checkFault(t, text, asks(word)[0], api.ErrState)
		}
	}
}

// A careful base lets one be over that may not commit, too.
func TestStateOfRefused(t *testing.T) {
	for _, word := range []string{"b1", "r1x0", "w1x7", "c1", "a1"} {
		b, faults := based(t, 2, true, "b0 b1 r0x0 r1x1 w0x1 w1x0 c0 c1 "+word)
		if faults != "c1:12 "+word+":6" {
			t.Errorf("%s: %s, %s", word, faults, all(b))
		}
	}
}

// 14.1: ErrLimit: MaxSteps Reads and Writes together; it can still be over.
func TestLimit(t *testing.T) {
	for _, steps := range []string{"r0x0 ", "w0x5 ", "r0x0 w0x0 ", "w0x1 r0x1 r0x7 "} {
		full := "b0 " + strings.Repeat(steps, api.MaxSteps/len(strings.Fields(steps)))
		for _, word := range []string{"r0x0", "r0x7", "w0x0", "w0x7"} {
			checkFault(t, full, asks(word)[0], api.ErrLimit)
			checkFault(t, full+"c0", asks(word)[0], api.ErrState)
			checkFault(t, full+"a0", asks(word)[0], api.ErrState)
		}
		checkFault(t, full, mvcc.Ask{Kind: mvcc.Read, Key: api.MaxKeys}, api.ErrRange)
		checkFault(t, full, mvcc.Ask{Kind: mvcc.Commit, Key: 1}, api.ErrArg)
		checkFault(t, full, mvcc.Ask{Kind: mvcc.Begin}, api.ErrState)
		for _, end := range []string{"c0", "a0", "b1 r1x0 w1x6 c1 c0"} {
			if b, faults := based(t, 2, false, full+end); faults != "" || len(b.Story().Txs[0].Ops) != api.MaxSteps {
				t.Errorf("%s: %s, %s", end, faults, all(b))
			}
		}
	}
	b, faults := based(t, 8, false, "b0 "+strings.Repeat("r0x0 ", api.MaxSteps-1)+"w0x0")
	if s := b.Story(); faults != "" || len(s.Txs[0].Ops) != api.MaxSteps || isolate.Check(s) != nil {
		t.Errorf("just as many: %s, %s", faults, all(b))
	}
}

// As many steps as there may be, of all transactions.
func TestAllFull(t *testing.T) {
	text := "b0 b1 b2 b3 b4 b5 b6 b7 "
	for n := range api.MaxSteps {
		for tx := range api.MaxTx {
			text += fmt.Sprintf("%c%dx%d ", "rw"[n%2], tx, (n+tx)%api.MaxKeys)
		}
	}
	text += "c0 c1 c2 c3 c4 c5 c6 c7"
	for _, careful := range []bool{false, true} {
		b, _ := based(t, api.MaxTx, careful, text)
		if s := b.Story(); isolate.Check(s) != nil || !s.Txs[0].Commits || b.Spans()[0] != [2]int{1, 8*api.MaxSteps + 9} {
			t.Errorf("%v, %v", s, b.Spans())
		}
	}
}
