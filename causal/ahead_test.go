package causal_test

import (
	"slices"
	"strings"
	"testing"

	"testimony/api"
	"testimony/causal"
)

// drawn is a table as text: a row's ops that it is ahead of are 1.
func drawn(rows [][]bool) string {
	var l []string
	for _, row := range rows {
		s := ""
		for _, ahead := range row {
			if ahead {
				s += "1"
			} else {
				s += "."
			}
		}
		l = append(l, s)
	}
	return strings.Join(l, " ")
}

func checkAhead(t *testing.T, name string, want string, ops ...api.Op) {
	t.Helper()
	if rows, err := causal.Ahead(ops); drawn(rows) != want || err != nil {
		t.Errorf("%s: %q, %v, not %q", name, drawn(rows), err, want)
	}
}

func checkNobody(t *testing.T, name string, ops ...api.Op) {
	t.Helper()
	if rows, err := causal.Ahead(ops); rows != nil || err != error(api.ErrNone) {
		t.Errorf("%s: %v, %v", name, rows, err)
	}
}

// 7.2: ErrNone: a read of what is not written to its key; 0 needs no write.
func TestAheadNone(t *testing.T) {
	checkNobody(t, "alone", read(0, 0, 1, 0, 1))
	checkNobody(t, "below 0", read(0, 0, -1, 0, 1))
	checkNobody(t, "another value is written", write(0, 0, 1, 0, 1), read(0, 0, 2, 2, 3))
	checkNobody(t, "written to another key", write(0, 0, 1, 0, 1), read(0, 1, 1, 2, 3))
	checkNobody(t, "behind one that is", write(0, 0, 1, 0, 1), read(0, 0, 1, 2, 3), read(0, 0, 2, 4, 5))
	checkNobody(t, "a read's A writes nothing", but(read(0, 0, 2, 0, 1), func(o *api.Op) { o.A = 2 }))
	checkNobody(t, "a write's B is not written", but(write(0, 0, 1, 0, 1), func(o *api.Op) { o.B = 2 }), read(0, 0, 2, 2, 3))
	checkAhead(t, "0", ".", read(0, 0, 0, 0, 1))
}

// 7.2: of its process, with a less Call: whatever the keys.
func TestAheadOfProcess(t *testing.T) {
	checkAhead(t, "nothing", "")
	checkAhead(t, "one", ".", write(0, 0, 1, 0, 1))
	checkAhead(t, "two", ".1 ..", write(0, 0, 1, 0, 1), write(0, 5, 1, 2, 3))
	checkAhead(t, "three", ".11 ..1 ...", write(0, 0, 1, 0, 1), read(0, 1, 0, 2, 3), write(0, 2, 3, 4, 5))
	checkAhead(t, "of two processes", ".. ..", write(0, 0, 1, 0, 1), write(1, 0, 2, 2, 3))
	checkAhead(t, "one of another process between", "..1 ... ...", write(0, 0, 1, 0, 1), write(1, 0, 2, 2, 3), write(0, 0, 3, 4, 5))
	checkAhead(t, "reads of 0 beside a write", ".. ..", write(0, 0, 1, 0, 1), read(1, 0, 0, 2, 3))
}

// 7.2: the second reads the first, wherever it stands; time has no part in it.
func TestAheadByRead(t *testing.T) {
	checkAhead(t, "read behind", ".1 ..", write(0, 0, 1, 0, 1), read(1, 0, 1, 2, 3))
	checkAhead(t, "read at the same time", ".1 ..", write(0, 0, 1, 0, 3), read(1, 0, 1, 1, 2))
	checkAhead(t, "read wholly ahead of it", ".. 1.", read(1, 0, 1, 0, 1), write(0, 0, 1, 2, 3))
	checkAhead(t, "read by two", ".11 ... ...", write(0, 0, 1, 0, 1), read(1, 0, 1, 2, 3), read(2, 0, 1, 4, 5))
	checkAhead(t, "the one of its key", "..1 ... ...", write(0, 3, 1, 0, 1), write(1, 4, 1, 2, 3), read(2, 3, 1, 4, 5))
	checkAhead(t, "the one of its value", "... ..1 ...", write(0, 3, -1, 0, 1), write(1, 3, 1, 2, 3), read(2, 3, 1, 4, 5))
	checkAhead(t, "a read's A is not read", ".. ..", write(0, 0, 1, 0, 1), but(read(1, 0, 0, 2, 3), func(o *api.Op) { o.A = 1 }))
}

// 7.2: over others between.
func TestAheadBetween(t *testing.T) {
	checkAhead(t, "read, then another one of the reader", ".11 ..1 ...",
		write(0, 0, 1, 0, 1), read(1, 0, 1, 2, 3), write(1, 1, 2, 4, 5))
	checkAhead(t, "two reads", ".1111 ..111 ...11 ....1 .....",
		write(0, 0, 1, 0, 1), read(1, 0, 1, 2, 3), write(1, 1, 2, 4, 5), read(2, 1, 2, 6, 7), read(2, 0, 1, 8, 9))
	checkAhead(t, "numbers fall along the way", ".... 1.1. 1... 111.",
		read(0, 0, 1, 0, 1), read(1, 1, 2, 2, 3), write(1, 0, 1, 4, 5), write(2, 1, 2, 6, 7))
	checkAhead(t, "two ways that meet", ".1111 ...11 ...11 ....1 .....",
		write(0, 0, 1, 0, 1), write(0, 1, 2, 2, 3), read(1, 0, 1, 4, 5), read(1, 1, 2, 6, 7), write(1, 2, 3, 8, 9))
}

// 7.2: what goes round is ahead of itself; that is no error.
func TestAheadRound(t *testing.T) {
	checkAhead(t, "by one process", "11 11", read(0, 0, 1, 0, 1), write(0, 0, 1, 2, 3))
	checkAhead(t, "by two", "1111 1111 1111 1111",
		read(0, 0, 1, 0, 1), read(1, 1, 2, 2, 3), write(0, 1, 2, 4, 5), write(1, 0, 1, 6, 7))
	checkAhead(t, "what leads there, and what comes of it, does not go round", ".111 .111 .111 ....",
		write(0, 1, 9, 0, 1), read(0, 0, 1, 2, 3), write(0, 0, 1, 4, 5), read(1, 0, 1, 6, 7))
}

// 7.2: as many ops as may be, one behind the other over all processes.
func TestAheadLong(t *testing.T) {
	var ops []api.Op
	for n := range api.MaxOps / 2 {
		p := n % api.MaxProcs
		ops = append(ops, read(p, (n+7)%api.MaxKeys, n, 4*n, 4*n+1), write(p, n%api.MaxKeys, n+1, 4*n+2, 4*n+3))
	}
	rows, err := causal.Ahead(ops)
	if err != nil || len(rows) != len(ops) {
		t.Fatalf("%d rows, %v", len(rows), err)
	}
	for a, row := range rows {
		for b, ahead := range row {
			if ahead != (a < b) || len(row) != len(ops) {
				t.Fatalf("%d and %d: %v", a, b, ahead)
			}
		}
	}
}

// P4: the ops stay as they are, also behind their length; the rows are the caller's, and have nothing of each other.
func TestMemory(t *testing.T) {
	room := []api.Op{write(0, 0, 1, 0, 1), write(0, 0, 2, 2, 3), read(0, 0, 1, 4, 5), read(0, 0, 7, 6, 7)}
	was := slices.Clone(room)
	rows, err := causal.Ahead(room[:3])
	if err != nil || drawn(rows) != ".11 ..1 ..." {
		t.Fatalf("%q, %v", drawn(rows), err)
	}
	for _, row := range rows {
		_ = append(row, true, true, true)
	}
	if drawn(rows) != ".11 ..1 ..." {
		t.Errorf("a row reaches into another one: %q", drawn(rows))
	}
	for _, row := range rows {
		clear(row)
	}
	checkAhead(t, "again", ".11 ..1 ...", room[:3]...)
	checkFinds(t, "all", room, causal.Thin, 3, 3)
	checkFinds(t, "three", room[:3], causal.Stale, 2, 1)
	checkForm(t, "three", room[:3]...)
	if !slices.Equal(room, was) {
		t.Errorf("the ops were written into: %v", room)
	}
}
