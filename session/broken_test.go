package session_test

import (
	"slices"
	"testing"

	"testimony/api"
	"testimony/session"
)

// pairs are what is told of each name, if just these are broken.
func pairs(broken map[int][2]int) [][2]int {
	l := [][2]int{{-1, -1}, {-1, -1}, {-1, -1}, {-1, -1}}
	for name, pair := range broken {
		l[name] = pair
	}
	return l
}

func checkPairs(t *testing.T, name string, v session.Versions, want [][2]int, ops ...api.Op) {
	t.Helper()
	if got, err := session.Broken(ops, v); err != nil || !slices.Equal(got, want) {
		t.Errorf("%s: %v, %v, not %v", name, got, err, want)
	}
}

// checkOne asks whether just that one is broken, by these two.
func checkOne(t *testing.T, name string, v session.Versions, what, earlier, later int, ops ...api.Op) {
	t.Helper()
	checkPairs(t, name, v, pairs(map[int][2]int{what: {earlier, later}}), ops...)
}

func checkWhole(t *testing.T, name string, v session.Versions, ops ...api.Op) {
	t.Helper()
	checkPairs(t, name, v, pairs(nil), ops...)
}

// The chapter's numbers.
func TestNumbers(t *testing.T) {
	if session.OwnWrites != 0 || session.Reads != 1 || session.Writes != 2 || session.AfterReads != 3 {
		t.Error(session.OwnWrites, session.Reads, session.Writes, session.AfterReads)
	}
}

// 8.2: -1 and -1, if there is none.
func TestWhole(t *testing.T) {
	checkWhole(t, "nothing", versions())
	checkWhole(t, "0 again and again", versions(), read(0, 0, 0, 0, 1), read(0, 0, 0, 2, 3))
	checkWhole(t, "its own write", versions(row(1)), write(0, 0, 1, 0, 1), read(0, 0, 1, 2, 3), read(0, 0, 1, 4, 5))
	checkWhole(t, "what it writes then", versions(row(1)), read(0, 0, 1, 0, 1), write(0, 0, 1, 2, 3))
	checkWhole(t, "newer and newer", versions(row(5, 4, 6)),
		read(0, 0, 0, 0, 1), write(0, 0, 5, 2, 3), write(1, 0, 4, 4, 5), read(0, 0, 4, 6, 7), write(0, 0, 6, 8, 9), read(0, 0, 6, 10, 11))
	checkWhole(t, "of two processes", versions(row(2, 1)), write(0, 0, 1, 0, 1), write(1, 0, 2, 2, 3))
	checkWhole(t, "reads of two processes", versions(row(1, 2)),
		write(0, 0, 1, 0, 1), write(0, 0, 2, 2, 3), read(1, 0, 2, 4, 5), read(2, 0, 1, 6, 7), read(3, 0, 0, 8, 9))
	checkWhole(t, "of two keys", versions(row(1, 2), row(2, 1)),
		write(0, 0, 1, 0, 1), write(1, 1, 2, 2, 3), write(0, 0, 2, 4, 5), write(1, 1, 1, 6, 7), read(0, 1, 2, 8, 9), read(0, 2, 0, 10, 11))
	checkWhole(t, "values fall, versions don't", versions(row(9, -3)), write(0, 0, 9, 0, 1), write(0, 0, -3, 2, 3), read(0, 0, -3, 4, 5))
}

// 8.2: OwnWrites: it writes, then reads what is older.
func TestOwnWrites(t *testing.T) {
	checkOne(t, "0", versions(row(1)), session.OwnWrites, 0, 1, write(0, 0, 1, 0, 1), read(0, 0, 0, 2, 3))
	checkOne(t, "an older one", versions(row(1, 2)), session.OwnWrites, 1, 2, write(1, 0, 1, 0, 1), write(0, 0, 2, 2, 3), read(0, 0, 1, 4, 5))
	checkOne(t, "older by the list, though written later", versions(row(2, 1)), session.OwnWrites, 0, 2,
		write(0, 0, 1, 0, 1), write(1, 0, 2, 2, 3), read(0, 0, 2, 4, 5))
	checkOne(t, "values below 0", versions(row(-1, -2)), session.OwnWrites, 1, 2,
		write(1, 0, -1, 0, 1), write(0, 0, -2, 2, 3), read(0, 0, -1, 4, 5))
	checkOne(t, "others between", versions(row(1), row(4)), session.OwnWrites, 0, 3,
		write(0, 0, 1, 0, 1), write(0, 1, 4, 2, 3), read(1, 0, 0, 4, 5), read(0, 0, 0, 6, 7))
}

// 8.2: Reads: it reads, then reads what is older.
func TestReads(t *testing.T) {
	checkOne(t, "0", versions(row(1)), session.Reads, 1, 2, write(1, 0, 1, 0, 1), read(0, 0, 1, 2, 3), read(0, 0, 0, 4, 5))
	checkOne(t, "an older one", versions(row(1, 2)), session.Reads, 2, 3,
		write(1, 0, 1, 0, 1), write(1, 0, 2, 2, 3), read(0, 0, 2, 4, 5), read(0, 0, 1, 6, 7))
	checkOne(t, "to and fro", versions(row(1, 2)), session.Reads, 3, 4,
		write(1, 0, 1, 0, 1), write(1, 0, 2, 2, 3), read(0, 0, 1, 4, 5), read(0, 0, 2, 6, 7), read(0, 0, 1, 8, 9))
}

// 8.2: Writes: it writes, then writes what is older.
func TestWrites(t *testing.T) {
	checkOne(t, "next to each other", versions(row(2, 1)), session.Writes, 0, 1, write(0, 0, 1, 0, 1), write(0, 0, 2, 2, 3))
	checkOne(t, "another one between", versions(row(3, 2, 1)), session.Writes, 0, 2, write(0, 0, 1, 0, 1), write(1, 0, 2, 2, 3), write(0, 0, 3, 4, 5))
}

// 8.2: AfterReads: it reads, then writes what is older.
func TestAfterReads(t *testing.T) {
	checkOne(t, "next to each other", versions(row(2, 1)), session.AfterReads, 1, 2,
		write(1, 0, 1, 0, 1), read(0, 0, 1, 2, 3), write(0, 0, 2, 4, 5))
	checkOne(t, "the key's own", versions(row(7), row(2, 1)), session.AfterReads, 1, 3,
		write(1, 1, 1, 0, 1), read(0, 1, 1, 2, 3), write(0, 0, 7, 4, 5), write(0, 1, 2, 6, 7))
}

// 8.2: of each the least later one, of it the least earlier one.
func TestLeast(t *testing.T) {
	checkOne(t, "the least later one, not the least earlier one", versions(row(1, 2), row(1, 2)), session.OwnWrites, 1, 4,
		write(0, 0, 2, 0, 1), write(0, 1, 2, 2, 3), write(1, 0, 1, 4, 5), write(1, 1, 1, 6, 7), read(0, 1, 1, 8, 9), read(0, 0, 1, 10, 11))
	checkOne(t, "the least earlier one, not the one next to it", versions(row(1, 2, 3)), session.OwnWrites, 0, 3,
		write(0, 0, 2, 0, 1), write(0, 0, 3, 2, 3), write(1, 0, 1, 4, 5), read(0, 0, 1, 6, 7))
	checkOne(t, "an earlier one that is as old stands first", versions(row(1, 2, 3)), session.OwnWrites, 2, 3,
		write(0, 0, 1, 0, 1), write(0, 0, 2, 2, 3), write(0, 0, 3, 4, 5), read(0, 0, 2, 6, 7))
	checkOne(t, "two later ones", versions(row(1)), session.OwnWrites, 0, 1,
		write(0, 0, 1, 0, 1), read(0, 0, 0, 2, 3), read(0, 0, 0, 4, 5))
	checkOne(t, "two processes", versions(row(1, 2)), session.OwnWrites, 1, 2,
		write(0, 0, 1, 0, 1), write(1, 0, 2, 2, 3), read(1, 0, 0, 4, 5), read(0, 0, 0, 6, 7))
}

// 8.2: each is looked for alone.
func TestSeveral(t *testing.T) {
	checkPairs(t, "two by one op", versions(row(1)), pairs(map[int][2]int{session.OwnWrites: {0, 2}, session.Reads: {1, 2}}),
		write(0, 0, 1, 0, 1), read(0, 0, 1, 2, 3), read(0, 0, 0, 4, 5))
	checkPairs(t, "all four", versions(row(3, 2, 1)), [][2]int{{0, 4}, {1, 4}, {0, 2}, {1, 2}},
		write(0, 0, 1, 0, 1), read(0, 0, 1, 2, 3), write(0, 0, 2, 4, 5), write(0, 0, 3, 6, 7), read(0, 0, 3, 8, 9))
	checkPairs(t, "each of another process", versions(row(4, 3, 2, 1)), [][2]int{{0, 4}, {5, 6}, {1, 2}, {7, 8}},
		write(0, 0, 1, 0, 1), write(1, 0, 2, 2, 3), write(1, 0, 3, 4, 5), read(2, 0, 4, 6, 7), read(0, 0, 2, 8, 9),
		read(2, 0, 1, 10, 11), read(2, 0, 3, 12, 13), read(3, 0, 1, 14, 15), write(3, 0, 4, 16, 17))
}

// P4: ops and lists stay as they are, also behind their length; the pairs are the caller's.
func TestMemory(t *testing.T) {
	room := []api.Op{write(0, 0, 1, 0, 1), write(0, 0, 2, 2, 3), read(0, 0, 0, 4, 5)}
	was := slices.Clone(room)
	list := row(2, 1, 77)
	lists := append(versions(list[:2]), row(5))
	v := lists[:api.MaxKeys]
	want := pairs(map[int][2]int{session.Writes: {0, 1}})
	got, err := session.Broken(room[:2], v)
	if err != nil || !slices.Equal(got, want) {
		t.Fatalf("%v, %v", got, err)
	}
	clear(got)
	checkPairs(t, "again", v, want, room[:2]...)
	checkForm(t, "two", v, room[:2]...)
	if !slices.Equal(room, was) || !slices.Equal(list, row(2, 1, 77)) {
		t.Errorf("written into: %v, %v", room, list)
	}
	if !slices.Equal(lists[api.MaxKeys], row(5)) || !slices.Equal(v[0], row(2, 1)) || len(slices.Concat(v[1:]...)) != 0 {
		t.Errorf("written into: %v", lists)
	}
}
