package causal_test

import (
	"slices"
	"testing"

	"testimony/api"
	"testimony/causal"
)

func checkFinds(t *testing.T, name string, ops []api.Op, code, first, second int) {
	t.Helper()
	if c, a, b, err := causal.Finds(ops); c != code || a != first || b != second || err != nil {
		t.Errorf("%s: %d, %d, %d, %v, not %d, %d, %d", name, c, a, b, err, code, first, second)
	}
}

func checkNone(t *testing.T, name string, ops ...api.Op) {
	t.Helper()
	checkFinds(t, name, ops, causal.Fine, 0, 0)
}

// The chapter's numbers.
func TestNumbers(t *testing.T) {
	if causal.Fine != 0 || causal.Thin != 1 || causal.Round != 2 || causal.Empty != 3 || causal.Stale != 4 {
		t.Error(causal.Fine, causal.Thin, causal.Round, causal.Empty, causal.Stale)
	}
}

// 7.3: Fine: none.
func TestFine(t *testing.T) {
	checkNone(t, "nothing")
	checkNone(t, "a write, read", write(0, 0, 1, 0, 1), read(0, 0, 1, 2, 3), read(1, 0, 1, 4, 5))
	checkNone(t, "0 is read ahead of its own write", read(0, 0, 0, 0, 1), write(0, 0, 1, 2, 3))
	checkNone(t, "0 is read behind another one's write", write(0, 0, 1, 0, 1), read(1, 0, 0, 2, 3))
	checkNone(t, "0 is read of another key", write(0, 0, 1, 0, 1), read(0, 1, 0, 2, 3))
	checkNone(t, "0 is read, though another key's write was read", write(0, 0, 1, 0, 1), read(1, 0, 1, 2, 3), read(1, 1, 0, 4, 5))
	checkNone(t, "read wholly ahead of its write", read(1, 0, 1, 0, 1), write(0, 0, 1, 2, 3))
	checkNone(t, "the newer one", write(0, 0, 1, 0, 1), write(0, 0, 2, 2, 3), read(0, 0, 2, 4, 5))
	checkNone(t, "the older one, by one who knows no newer one", write(0, 0, 1, 0, 1), write(0, 0, 2, 2, 3), read(1, 0, 1, 4, 5))
	checkNone(t, "the older one, though a newer one of another key is known",
		write(0, 0, 1, 0, 1), write(0, 1, 2, 2, 3), read(1, 1, 2, 4, 5), read(1, 0, 1, 6, 7))
	checkNone(t, "two that know nothing of each other, in both orders",
		write(0, 0, 1, 0, 1), write(1, 0, 2, 2, 3), read(2, 0, 1, 4, 5), read(2, 0, 2, 6, 7), read(3, 0, 2, 8, 9), read(3, 0, 1, 10, 11))
	checkNone(t, "two that know nothing of each other, to and fro",
		write(0, 0, 1, 0, 1), write(1, 0, 2, 2, 3), read(2, 0, 1, 4, 5), read(2, 0, 2, 6, 7), read(2, 0, 1, 8, 9))
	checkNone(t, "each its own", write(0, 0, 1, 0, 1), write(1, 0, 2, 2, 3), read(0, 0, 1, 4, 5), read(1, 0, 2, 6, 7))
}

// 7.3: Thin: a read of what is not written, the least number, twice.
func TestThin(t *testing.T) {
	checkFinds(t, "alone", []api.Op{read(0, 0, 1, 0, 1)}, causal.Thin, 0, 0)
	checkFinds(t, "below 0", []api.Op{read(0, 0, -1, 0, 1)}, causal.Thin, 0, 0)
	checkFinds(t, "another one is written", []api.Op{write(0, 0, 1, 0, 1), read(0, 0, 2, 2, 3)}, causal.Thin, 1, 1)
	checkFinds(t, "written to another key", []api.Op{write(0, 0, 1, 0, 1), read(0, 1, 1, 2, 3)}, causal.Thin, 1, 1)
	checkFinds(t, "the first of several", []api.Op{write(0, 0, 1, 0, 1), read(0, 0, 1, 2, 3), read(0, 0, 9, 4, 5), read(0, 0, 3, 6, 7)}, causal.Thin, 2, 2)
	checkFinds(t, "by number, not by end", []api.Op{read(0, 0, 9, 0, 3), read(1, 0, 8, 1, 2)}, causal.Thin, 0, 0)
}

// 7.3: Round: an op ahead of itself, the least number, twice.
func TestRound(t *testing.T) {
	checkFinds(t, "one process reads what it writes then", []api.Op{read(0, 0, 1, 0, 1), write(0, 0, 1, 2, 3)}, causal.Round, 0, 0)
	checkFinds(t, "another one between", []api.Op{read(0, 0, 1, 0, 1), read(0, 1, 0, 2, 3), write(0, 0, 1, 4, 5)}, causal.Round, 0, 0)
	checkFinds(t, "two processes",
		[]api.Op{read(0, 0, 1, 0, 1), read(1, 1, 2, 2, 3), write(0, 1, 2, 4, 5), write(1, 0, 1, 6, 7)}, causal.Round, 0, 0)
	checkFinds(t, "three processes",
		[]api.Op{read(0, 0, 1, 0, 1), read(1, 1, 2, 2, 3), read(2, 2, 3, 4, 5), write(0, 1, 2, 6, 7), write(1, 2, 3, 8, 9), write(2, 0, 1, 10, 11)}, causal.Round, 0, 0)
	checkFinds(t, "what leads there does not go round",
		[]api.Op{write(0, 1, 9, 0, 1), read(1, 0, 0, 2, 3), read(0, 0, 1, 4, 5), write(0, 0, 1, 6, 7)}, causal.Round, 2, 2)
	checkFinds(t, "two ways round, the least",
		[]api.Op{write(3, 5, 1, 0, 1), read(1, 0, 4, 2, 3), read(0, 1, 1, 4, 5), write(0, 1, 1, 6, 7), write(1, 0, 4, 8, 9)}, causal.Round, 1, 1)
}

// 7.3: Empty: a read of 0, and a write of its key ahead of it.
func TestEmpty(t *testing.T) {
	checkFinds(t, "its own write", []api.Op{write(0, 0, 1, 0, 1), read(0, 0, 0, 2, 3)}, causal.Empty, 1, 0)
	checkFinds(t, "one that it read", []api.Op{write(0, 0, 1, 0, 1), read(1, 0, 1, 2, 3), read(1, 0, 0, 4, 5)}, causal.Empty, 2, 0)
	checkFinds(t, "over another key",
		[]api.Op{write(0, 0, 1, 0, 1), write(0, 1, 2, 2, 3), read(1, 1, 2, 4, 5), read(1, 0, 0, 6, 7)}, causal.Empty, 3, 0)
	checkFinds(t, "a write that begins later",
		[]api.Op{read(1, 0, 1, 0, 1), read(1, 0, 0, 2, 3), write(0, 0, 1, 4, 5)}, causal.Empty, 1, 2)
	checkFinds(t, "of two reads the least, of two writes the least",
		[]api.Op{write(0, 0, 5, 0, 1), write(0, 0, 4, 2, 3), read(0, 0, 0, 4, 5), read(0, 0, 0, 6, 7)}, causal.Empty, 2, 0)
	checkFinds(t, "the least read, not the least write",
		[]api.Op{write(0, 1, 1, 0, 1), write(0, 0, 1, 2, 3), read(0, 0, 0, 4, 5), read(0, 1, 0, 6, 7)}, causal.Empty, 2, 1)
	checkFinds(t, "a write that is not ahead stands first",
		[]api.Op{write(1, 0, 9, 0, 1), write(0, 0, 1, 2, 3), read(0, 0, 0, 4, 5)}, causal.Empty, 2, 1)
	checkFinds(t, "a read without one stands first",
		[]api.Op{read(0, 0, 0, 0, 1), write(0, 0, 1, 2, 3), read(1, 0, 0, 4, 5), read(0, 0, 0, 6, 7)}, causal.Empty, 3, 1)
}

// 7.3: Stale: a read, and a write of its key that is ahead of it, and behind the one that it reads.
func TestStale(t *testing.T) {
	checkFinds(t, "its own", []api.Op{write(0, 0, 1, 0, 1), write(0, 0, 2, 2, 3), read(0, 0, 1, 4, 5)}, causal.Stale, 2, 1)
	checkFinds(t, "the newer one was read", []api.Op{write(0, 0, 1, 0, 1), write(0, 0, 2, 2, 3), read(1, 0, 2, 4, 5), read(1, 0, 1, 6, 7)}, causal.Stale, 3, 1)
	checkFinds(t, "the newer one's writer read the older one",
		[]api.Op{write(0, 0, 1, 0, 1), read(1, 0, 1, 2, 3), write(1, 0, 2, 4, 5), read(2, 0, 2, 6, 7), read(2, 0, 1, 8, 9)}, causal.Stale, 4, 2)
	checkFinds(t, "overwritten by its reader", []api.Op{write(0, 0, 1, 0, 1), read(1, 0, 1, 2, 3), write(1, 0, 2, 4, 5), read(1, 0, 1, 6, 7)}, causal.Stale, 3, 2)
	checkFinds(t, "over another key",
		[]api.Op{write(0, 0, 1, 0, 1), write(0, 0, 2, 2, 3), write(0, 1, 3, 4, 5), read(1, 1, 3, 6, 7), read(1, 0, 1, 8, 9)}, causal.Stale, 4, 1)
	checkFinds(t, "by what came ahead, not by time",
		[]api.Op{read(1, 0, 1, 0, 1), write(1, 0, 2, 2, 3), write(0, 0, 1, 4, 5), read(2, 0, 2, 6, 7), read(2, 0, 1, 8, 9)}, causal.Stale, 4, 1)
	checkFinds(t, "values fall", []api.Op{write(0, 0, 3, 0, 1), write(0, 0, -2, 2, 3), read(0, 0, 3, 4, 5)}, causal.Stale, 2, 1)
	checkFinds(t, "a value at two keys",
		[]api.Op{write(0, 1, 1, 0, 1), write(0, 0, 1, 2, 3), write(0, 1, 2, 4, 5), read(0, 0, 1, 6, 7), read(0, 1, 1, 8, 9)}, causal.Stale, 4, 2)
}

// 7.3: of several that are stale the least read, of it the least write.
func TestLeastStale(t *testing.T) {
	checkFinds(t, "two writes", []api.Op{write(0, 0, 1, 0, 1), write(0, 0, 3, 2, 3), write(0, 0, 2, 4, 5), read(0, 0, 1, 6, 7)}, causal.Stale, 3, 1)
	checkFinds(t, "two reads", []api.Op{write(0, 0, 1, 0, 1), write(0, 0, 2, 2, 3), read(0, 0, 1, 4, 5), read(0, 0, 1, 6, 7)}, causal.Stale, 2, 1)
	checkFinds(t, "the least read, not the least write",
		[]api.Op{write(0, 1, 1, 0, 1), write(0, 1, 2, 2, 3), write(0, 0, 1, 4, 5), write(0, 0, 2, 6, 7), read(0, 0, 1, 8, 9), read(0, 1, 1, 10, 11)}, causal.Stale, 4, 3)
	checkFinds(t, "a write that is ahead of the one that is read stands first",
		[]api.Op{write(0, 0, 9, 0, 1), write(0, 0, 1, 2, 3), write(0, 0, 2, 4, 5), read(0, 0, 1, 6, 7)}, causal.Stale, 3, 2)
	checkFinds(t, "a write that is not ahead of the read stands first",
		[]api.Op{write(0, 0, 1, 0, 1), read(1, 0, 1, 2, 3), write(1, 0, 7, 4, 5), write(0, 0, 2, 6, 7), read(0, 0, 1, 8, 9)}, causal.Stale, 4, 3)
	checkFinds(t, "the least write, not the first in order",
		[]api.Op{read(1, 0, 2, 0, 1), write(1, 0, 3, 2, 3), write(0, 0, 1, 4, 5), write(0, 0, 2, 6, 7), read(2, 0, 3, 8, 9), read(2, 0, 1, 10, 11)}, causal.Stale, 5, 1)
}

// 7.3: the first of these that there is, whatever else there is, and wherever it stands.
func TestWhichFirst(t *testing.T) {
	stale := []api.Op{write(0, 0, 1, 0, 1), write(0, 0, 2, 2, 3), read(0, 0, 1, 4, 5)}
	empty := append(slices.Clone(stale), read(0, 0, 0, 6, 7))
	round := append(slices.Clone(empty), read(1, 1, 5, 8, 9), write(1, 1, 5, 10, 11))
	thin := append(slices.Clone(round), read(2, 2, 8, 12, 13))
	checkFinds(t, "Stale", stale, causal.Stale, 2, 1)
	checkFinds(t, "Empty", empty, causal.Empty, 3, 0)
	checkFinds(t, "Round", round, causal.Round, 4, 4)
	checkFinds(t, "Thin", thin, causal.Thin, 6, 6)
}
