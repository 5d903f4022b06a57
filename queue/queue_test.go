package queue_test

import (
	"slices"
	"testing"

	"testimony/api"
	"testimony/queue"
)

func checkFinds(t *testing.T, name string, ops []api.Op, code, first, second int) {
	t.Helper()
	if c, a, b, err := queue.Finds(ops); c != code || a != first || b != second || err != nil {
		t.Errorf("%s: %d, %d, %d, %v, not %d, %d, %d", name, c, a, b, err, code, first, second)
	}
}

func checkNone(t *testing.T, name string, ops ...api.Op) {
	t.Helper()
	checkFinds(t, name, ops, queue.Fine, 0, 0)
}

// The chapter's numbers.
func TestNumbers(t *testing.T) {
	if queue.Fine != 0 || queue.Thin != 1 || queue.Twice != 2 || queue.Early != 3 || queue.Crossed != 4 {
		t.Error(queue.Fine, queue.Thin, queue.Twice, queue.Early, queue.Crossed)
	}
}

// 6.2: Fine: none.
func TestFine(t *testing.T) {
	checkNone(t, "nothing")
	checkNone(t, "pushed, and never popped", push(0, 1, 0, 1), push(0, 2, 2, 3))
	checkNone(t, "one behind the other", push(0, 1, 0, 1), push(0, 2, 2, 3), pop(0, 1, 4, 5), pop(0, 2, 6, 7))
	checkNone(t, "the last one stays", push(0, 1, 0, 1), push(0, 2, 2, 3), pop(0, 1, 4, 5))
	checkNone(t, "0 and what is below", push(0, 0, 0, 1), push(0, -7, 2, 3), pop(0, 0, 4, 5), pop(0, -7, 6, 7))
	checkNone(t, "a pop's A is not popped", push(0, 1, 0, 1), push(0, 2, 2, 3), but(pop(0, 1, 4, 5), func(o *api.Op) { o.A = 2 }))
	checkNone(t, "popped while it is pushed", push(0, 1, 0, 9), pop(1, 1, 1, 2))
	checkNone(t, "a pop that begins first", pop(1, 1, 0, 9), push(0, 1, 1, 2))
	checkNone(t, "a pop that ends just behind the push's call", pop(1, 1, 0, 3), push(0, 1, 2, 4))
	checkNone(t, "pushed at the same time", push(0, 1, 0, 3), push(1, 2, 1, 2), pop(0, 2, 4, 5), pop(0, 1, 6, 7))
	checkNone(t, "pushed at the same time, one stays", push(0, 1, 0, 3), push(1, 2, 1, 2), pop(0, 2, 4, 5))
	checkNone(t, "popped at the same time", push(0, 1, 0, 1), push(0, 2, 2, 3), pop(0, 2, 4, 7), pop(1, 1, 5, 6))
	checkNone(t, "popped at the same time, just", push(0, 1, 0, 1), push(0, 2, 2, 3), pop(0, 2, 4, 6), pop(1, 1, 5, 7))
}

// 6.2: Thin: a pop of what no op pushes, the first one.
func TestThin(t *testing.T) {
	checkFinds(t, "alone", []api.Op{pop(0, 1, 0, 1)}, queue.Thin, 0, 0)
	checkFinds(t, "0", []api.Op{pop(0, 0, 0, 1)}, queue.Thin, 0, 0)
	checkFinds(t, "another one is pushed", []api.Op{push(0, 1, 0, 1), pop(0, 2, 2, 3)}, queue.Thin, 1, 1)
	checkFinds(t, "a push's B is not pushed", []api.Op{but(push(0, 1, 0, 1), func(o *api.Op) { o.B = 2 }), pop(0, 2, 2, 3)}, queue.Thin, 1, 1)
	checkFinds(t, "a pop's A is not pushed", []api.Op{push(0, 1, 0, 1), but(pop(0, 2, 2, 3), func(o *api.Op) { o.A = 2 })}, queue.Thin, 1, 1)
	checkFinds(t, "the first of several", []api.Op{push(0, 1, 0, 1), pop(0, 1, 2, 3), pop(0, 9, 4, 5), pop(0, 3, 6, 7), pop(0, 5, 8, 9)}, queue.Thin, 2, 2)
	checkFinds(t, "one of them twice", []api.Op{pop(0, 9, 0, 1), pop(0, 9, 2, 3)}, queue.Thin, 0, 0)
	checkFinds(t, "by number, not by end", []api.Op{pop(0, 9, 0, 3), pop(1, 8, 1, 2)}, queue.Thin, 0, 0)
}

// 6.2: Twice: two pops of one value.
func TestTwice(t *testing.T) {
	one := push(0, 1, 0, 1)
	checkFinds(t, "next to each other", []api.Op{one, pop(0, 1, 2, 3), pop(0, 1, 4, 5)}, queue.Twice, 1, 2)
	checkFinds(t, "three", []api.Op{one, pop(0, 1, 2, 3), pop(0, 1, 4, 5), pop(0, 1, 6, 7)}, queue.Twice, 1, 2)
	checkFinds(t, "at the same time", []api.Op{one, pop(0, 1, 2, 9), pop(1, 1, 3, 5)}, queue.Twice, 1, 2)
	checkFinds(t, "on both sides of the push", []api.Op{pop(0, 1, 0, 1), push(0, 1, 2, 3), pop(0, 1, 4, 5)}, queue.Twice, 0, 2)
	checkFinds(t, "the least first number, not the least second one",
		[]api.Op{one, push(0, 2, 2, 3), pop(0, 1, 4, 5), pop(0, 2, 6, 7), pop(0, 2, 8, 9), pop(0, 1, 10, 11)}, queue.Twice, 2, 5)
	checkFinds(t, "by number, not by value",
		[]api.Op{one, push(0, 2, 2, 3), pop(0, 2, 4, 5), pop(0, 1, 6, 7), pop(0, 1, 8, 9), pop(0, 2, 10, 11)}, queue.Twice, 2, 5)
}

// 6.2: Early: a push, and the pop of its value that is Before it.
func TestEarly(t *testing.T) {
	checkFinds(t, "alone", []api.Op{pop(0, 1, 0, 1), push(0, 1, 2, 3)}, queue.Early, 1, 0)
	checkFinds(t, "just ahead", []api.Op{pop(0, 1, 0, 4), push(1, 1, 5, 6)}, queue.Early, 1, 0)
	checkFinds(t, "far ahead", []api.Op{push(0, 2, 0, 1), pop(0, 1, 2, 3), push(0, 3, 4, 5), push(0, 1, 6, 7)}, queue.Early, 3, 1)
	checkFinds(t, "the least push, not the least pop",
		[]api.Op{pop(0, 1, 0, 1), pop(0, 2, 2, 3), push(0, 2, 4, 5), push(0, 1, 6, 7)}, queue.Early, 2, 1)
	checkFinds(t, "the least push, which is the least value's, too",
		[]api.Op{pop(0, 2, 0, 1), pop(0, 1, 2, 3), push(0, 1, 4, 5), push(0, 2, 6, 7)}, queue.Early, 2, 1)
}

// 6.2: Crossed: the second value is popped, the first is not.
func TestCrossedNotPopped(t *testing.T) {
	checkFinds(t, "alone", []api.Op{push(0, 1, 0, 1), push(0, 2, 2, 3), pop(0, 2, 4, 5)}, queue.Crossed, 0, 1)
	checkFinds(t, "popped while it is pushed", []api.Op{push(0, 1, 0, 1), pop(1, 2, 2, 5), push(0, 2, 3, 9)}, queue.Crossed, 0, 2)
	checkFinds(t, "just ahead", []api.Op{push(0, 1, 0, 3), push(1, 2, 4, 5), pop(0, 2, 6, 7)}, queue.Crossed, 0, 1)
}

// 6.2: Crossed: the second value's pop is Before the first one's.
func TestCrossedPops(t *testing.T) {
	checkFinds(t, "alone", []api.Op{push(0, 1, 0, 1), push(0, 2, 2, 3), pop(0, 2, 4, 5), pop(0, 1, 6, 7)}, queue.Crossed, 0, 1)
	checkFinds(t, "just ahead", []api.Op{push(0, 1, 0, 1), push(0, 2, 2, 3), pop(0, 2, 4, 6), pop(1, 1, 7, 8)}, queue.Crossed, 0, 1)
	checkFinds(t, "values fall", []api.Op{push(0, 2, 0, 1), push(0, -3, 2, 3), pop(0, -3, 4, 5), pop(0, 2, 6, 7)}, queue.Crossed, 0, 1)
}

// 6.2: of several that are crossed the least first push, of these the least second one.
func TestLeastCrossed(t *testing.T) {
	checkFinds(t, "two behind one", []api.Op{push(0, 1, 0, 1), push(0, 2, 2, 3), push(0, 3, 4, 5), pop(0, 2, 6, 7), pop(0, 3, 8, 9)}, queue.Crossed, 0, 1)
	checkFinds(t, "only the last behind the first", []api.Op{push(0, 1, 0, 1), push(0, 2, 2, 3), push(0, 3, 4, 5), pop(0, 3, 6, 7)}, queue.Crossed, 0, 2)
	checkFinds(t, "pops don't tell which",
		[]api.Op{push(0, 1, 0, 1), push(0, 2, 2, 3), push(0, 3, 4, 5), pop(0, 3, 6, 7), pop(0, 2, 8, 9), pop(0, 1, 10, 11)}, queue.Crossed, 0, 1)
	checkFinds(t, "the first is as it may be",
		[]api.Op{push(0, 9, 0, 1), push(0, 5, 2, 3), push(0, 7, 4, 5), pop(0, 9, 6, 7), pop(0, 7, 8, 9)}, queue.Crossed, 1, 2)
}

// 6.2: the first of these that there is, whatever else there is, and wherever it stands.
func TestWhichFirst(t *testing.T) {
	crossed := []api.Op{push(0, 1, 0, 1), push(0, 2, 2, 3), pop(0, 2, 4, 5)}
	early := append(slices.Clone(crossed), pop(0, 3, 6, 7), push(0, 3, 8, 9))
	twice := append(slices.Clone(early), pop(0, 2, 10, 11))
	thin := append(slices.Clone(twice), pop(0, 8, 12, 13))
	checkFinds(t, "Crossed", crossed, queue.Crossed, 0, 1)
	checkFinds(t, "Early", early, queue.Early, 4, 3)
	checkFinds(t, "Twice", twice, queue.Twice, 2, 5)
	checkFinds(t, "Thin", thin, queue.Thin, 6, 6)
}

// P4: the ops stay as they are, also behind their length; the answer hangs on no call ahead.
func TestMemory(t *testing.T) {
	room := []api.Op{push(0, 1, 0, 1), push(0, 2, 2, 3), pop(0, 2, 4, 5), pop(0, 7, 6, 7)}
	was := slices.Clone(room)
	checkFinds(t, "all", room, queue.Thin, 3, 3)
	for range 20 {
		checkFinds(t, "three", room[:3], queue.Crossed, 0, 1)
	}
	checkForm(t, "three", room[:3]...)
	if !slices.Equal(room, was) {
		t.Errorf("the ops were written into: %v", room)
	}
}
