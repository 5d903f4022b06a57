package session_test

import (
	"testing"

	"testimony/api"
	"testimony/session"
)

// write and read are ops that came to their ends.
func write(proc, key, a, call, end int) api.Op {
	return api.Op{Proc: proc, Key: key, Kind: api.Write, A: a, Call: call, Return: end}
}

func read(proc, key, result, call, end int) api.Op {
	return api.Op{Proc: proc, Key: key, Kind: api.Read, Result: result, Call: call, Return: end}
}

// but is an op with a change.
func but(op api.Op, change func(*api.Op)) api.Op {
	change(&op)
	return op
}

// row is one list of values.
func row(values ...int) []int { return values }

// versions are these lists of the first keys, and empty ones of the others.
func versions(lists ...[]int) session.Versions {
	v := make(session.Versions, api.MaxKeys)
	copy(v, lists)
	return v
}

// checkFault asks whether both tell want, without a place, and nothing beside it.
func checkFault(t *testing.T, name string, v session.Versions, want api.Errno, ops ...api.Op) {
	t.Helper()
	if err := session.Check(ops, v); err != error(want) {
		t.Errorf("%s: Check tells %v, not %v", name, err, want)
	}
	if pairs, err := session.Broken(ops, v); pairs != nil || err != error(want) {
		t.Errorf("%s: Broken tells %v, %v, not %v", name, pairs, err, want)
	}
}

func checkForm(t *testing.T, name string, v session.Versions, ops ...api.Op) {
	t.Helper()
	if err := session.Check(ops, v); err != nil {
		t.Errorf("%s: %v", name, err)
	}
}

// 8.1: versions that are of the ops.
func TestCheckFine(t *testing.T) {
	last := make(session.Versions, api.MaxKeys)
	last[api.MaxKeys-1] = row(3)
	checkForm(t, "nothing", versions())
	checkForm(t, "empty lists", versions(row(), []int{}, nil))
	checkForm(t, "0 is read of an empty list", versions(), read(0, 0, 0, 0, 1), read(1, 7, 0, 2, 3))
	checkForm(t, "0 is read of a list", versions(row(1)), write(0, 0, 1, 0, 1), read(1, 0, 0, 2, 3))
	checkForm(t, "in the order of the writes", versions(row(1, 2)), write(0, 0, 1, 0, 1), write(0, 0, 2, 2, 3))
	checkForm(t, "in another order", versions(row(2, -3, 1)), write(0, 0, 1, 0, 1), write(0, 0, 2, 2, 3), write(1, 0, -3, 4, 5))
	checkForm(t, "a value at two keys", versions(row(1), row(2, 1)), write(0, 0, 1, 0, 1), write(0, 1, 1, 2, 3), write(0, 1, 2, 4, 5))
	checkForm(t, "the last key", last, write(0, api.MaxKeys-1, 3, 0, 1), read(0, api.MaxKeys-1, 3, 2, 3))
	checkForm(t, "read ahead of its write", versions(row(1)), read(0, 0, 1, 0, 1), write(0, 0, 1, 2, 3))
	checkForm(t, "a read's A is not looked for", versions(row(1)), write(0, 0, 1, 0, 1), but(read(0, 0, 1, 2, 3), func(o *api.Op) { o.A = 8 }))
}

// 8.1: what Check of chapter 7 says, ahead of all else.
func TestCheckCausal(t *testing.T) {
	var many []api.Op
	for n := range api.MaxOps + 1 {
		many = append(many, read(0, 0, 0, 2*n, 2*n+1))
	}
	checkFault(t, "too many", nil, api.ErrLimit, many...)
	checkFault(t, "a key beyond", nil, api.ErrRange, read(0, api.MaxKeys, 0, 0, 1))
	checkFault(t, "a key below 0", versions(), api.ErrRange, write(0, -1, 1, 0, 1))
	checkFault(t, "no kind", versions(), api.ErrArg, api.Op{Call: 0, Return: 1})
	checkFault(t, "a process at two", versions(row(1)), api.ErrState, write(0, 0, 1, 0, 2), read(0, 0, 1, 1, 3))
	checkFault(t, "another kind", versions(row(1)), api.ErrForm, api.Op{Kind: api.Push, A: 1, Call: 0, Return: 1})
	checkFault(t, "a write of 0", versions(row(0)), api.ErrForm, write(0, 0, 0, 0, 1))
	checkFault(t, "a write of 0, behind one that is missing", versions(), api.ErrForm, write(0, 0, 1, 0, 1), write(0, 0, 0, 2, 3))
	checkFault(t, "a read without an end", versions(), api.ErrForm, read(0, 0, 0, 0, -1))
	checkFault(t, "twice", versions(row(1, 1)), api.ErrTwice, write(0, 0, 1, 0, 1), write(0, 0, 1, 2, 3))
	checkFault(t, "twice, and no lists", nil, api.ErrTwice, write(0, 0, 1, 0, 1), write(0, 0, 1, 2, 3))
}

// 8.1: there are MaxKeys lists; that is told ahead of what they have.
func TestCheckLists(t *testing.T) {
	short, long := versions(row(1))[:api.MaxKeys-1], append(versions(row(1)), nil)
	checkFault(t, "no lists", nil, api.ErrForm)
	checkFault(t, "no lists", session.Versions{}, api.ErrForm)
	checkFault(t, "one list", session.Versions{row(1)}, api.ErrForm, write(0, 0, 1, 0, 1))
	checkFault(t, "one too few", short, api.ErrForm, write(0, 0, 1, 0, 1))
	checkFault(t, "one too many", long, api.ErrForm, write(0, 0, 1, 0, 1))
	checkFault(t, "ahead of what is missing", short, api.ErrForm, write(0, 0, 2, 0, 1))
	checkFault(t, "ahead of what is missing", long, api.ErrForm, write(0, 0, 2, 0, 1))
	checkFault(t, "ahead of what is read", nil, api.ErrForm, read(0, 7, 2, 0, 1))
}

// 8.1: ErrMissing: a value is written that its key's list hasn't.
func TestCheckMissing(t *testing.T) {
	checkFault(t, "an empty list", versions(), api.ErrMissing, write(0, 0, 1, 0, 1))
	checkFault(t, "another value", versions(row(2)), api.ErrMissing, write(0, 0, 1, 0, 1))
	checkFault(t, "but for its sign", versions(row(-1)), api.ErrMissing, write(0, 0, 1, 0, 1))
	checkFault(t, "in another key's list", versions(row(1)), api.ErrMissing, write(0, 1, 1, 0, 1))
	checkFault(t, "the second one", versions(row(1)), api.ErrMissing, write(0, 0, 1, 0, 1), write(0, 0, 2, 2, 3))
	checkFault(t, "just as long", versions(row(1, 3)), api.ErrMissing, write(0, 0, 1, 0, 1), write(0, 0, 2, 2, 3))
	checkFault(t, "behind a list that is too long", versions(row(1, 2), row()), api.ErrMissing, write(0, 0, 1, 0, 1), write(0, 1, 2, 2, 3))
}

// 8.1: ErrNone: a value, not 0, is read that its key's list hasn't.
func TestCheckNone(t *testing.T) {
	checkFault(t, "an empty list", versions(), api.ErrNone, read(0, 0, 1, 0, 1))
	checkFault(t, "another value", versions(row(2)), api.ErrNone, write(0, 0, 2, 0, 1), read(0, 0, 1, 2, 3))
	checkFault(t, "in another key's list", versions(row(2)), api.ErrNone, write(0, 0, 2, 0, 1), read(0, 1, 2, 2, 3))
	checkFault(t, "a list that is too long", versions(row(2, 3)), api.ErrNone, write(0, 0, 2, 0, 1), read(0, 0, 1, 2, 3))
	checkFault(t, "a read's A is not what it reads", versions(row(2)), api.ErrNone, write(0, 0, 2, 0, 1), but(read(0, 0, 1, 2, 3), func(o *api.Op) { o.A = 2 }))
}

// 8.1: op by op: of two the first one's.
func TestCheckOpByOp(t *testing.T) {
	checkFault(t, "a write, then a read", versions(row(9)), api.ErrMissing, write(0, 0, 1, 0, 1), read(0, 0, 2, 2, 3))
	checkFault(t, "a read, then a write", versions(row(9)), api.ErrNone, read(0, 0, 2, 0, 1), write(0, 0, 1, 2, 3))
	checkFault(t, "by number, not by key", versions(), api.ErrNone, read(0, 5, 2, 0, 1), write(0, 0, 1, 2, 3))
}

// 8.1: then ErrForm: a list is not as long as there are writes of its key.
func TestCheckLong(t *testing.T) {
	last := versions(row(1))
	last[api.MaxKeys-1] = row(1)
	checkFault(t, "a value that is not written", versions(row(1, 2)), api.ErrForm, write(0, 0, 1, 0, 1))
	checkFault(t, "a value that is read alone", versions(row(1, 2)), api.ErrForm, write(0, 0, 1, 0, 1), read(0, 0, 2, 2, 3))
	checkFault(t, "a value twice", versions(row(1, 1)), api.ErrForm, write(0, 0, 1, 0, 1))
	checkFault(t, "0", versions(row(0, 1)), api.ErrForm, write(0, 0, 1, 0, 1))
	checkFault(t, "no ops", versions(row(1)), api.ErrForm)
	checkFault(t, "a key without writes", versions(row(1), row(1)), api.ErrForm, write(0, 0, 1, 0, 1))
	checkFault(t, "the last key", last, api.ErrForm, write(0, 0, 1, 0, 1))
	checkFault(t, "reads don't count", versions(row(1, 2)), api.ErrForm, write(0, 0, 1, 0, 1), read(0, 0, 1, 2, 3))
	checkFault(t, "another key's writes don't count", versions(row(1, 2), row(3)), api.ErrForm, write(0, 0, 1, 0, 1), write(0, 1, 3, 2, 3))
}
