package desk_test

import (
	"fmt"
	"strings"
	"testing"
)

// 21.1: see tells how many events there are.
func TestSee(t *testing.T) {
	askAll(t,
		"see 0 invoke write 3 -7 0 0", "1",
		"see 7 invoke cas 0 0 0 0", "error 5",
		"see 7 invoke swap 7 1000000 -1000000 0", "2",
		"see 0 fail write 3 -7 0 0", "3",
		"see 7 info swap 7 1000000 -1000000 0", "4",
		"see 0 invoke get 0 0 0 0", "5",
		"see 0 ok get 0 0 0 -12", "6",
	)
}

// 21.1: what Parse says of the event, and what Ops says of all.
func TestSeeWrong(t *testing.T) {
	ahead := []string{"see 0 invoke write 0 5 0 0", "see 1 invoke read 0 0 0 0", "see 1 info read 0 0 0 0"}
	for want, lines := range map[string][]string{
		"error 3": {"see x ok write 0 5 0 0", "see 00 ok write 0 5 0 0", "see -0 ok write 0 5 0 0", "see 0 ok write +0 5 0 0", "see 0 ok write 0 5. 0 0", "see 0 ok write 0 5 0 9223372036854775808", "see x begin cas 0 0 0 0", "see 9 begin cas 0 0 0 x"},
		"error 5": {"see 0 begin write 0 5 0 0", "see 0 ok cas 0 5 0 0", "see 0 Ok write 0 5 0 0", "see 0 write ok 0 5 0 0", "see 9 begin write 0 5 0 0", "see 0 0 0 0 5 0 0"},
		"error 2": {"see -1 ok write 0 5 0 0", "see 8 ok write 0 5 0 0", "see 0 ok write 8 5 0 0", "see 0 ok write 0 1000001 0 0", "see 0 fail write 0 5 0 -1000001", "see 9223372036854775807 ok write 0 5 0 0"},
		"error 1": {"see 0 invoke write 0 5 0 1", "see 0 fail write 0 5 0 1", "see 0 info write 0 5 0 -1", "see 2 invoke read 0 0 0 1"},
		"error 6": {"see 0 invoke write 0 5 0 0", "see 0 invoke read 1 0 0 0", "see 1 invoke read 0 0 0 0"},
		"error 12": {"see 0 ok write 0 6 0 0", "see 0 ok write 1 5 0 0", "see 0 ok read 0 5 0 0", "see 0 info write 0 5 1 0", "see 1 ok read 0 0 0 0", "see 1 info read 0 0 0 0",
			"see 2 ok read 0 0 0 0", "see 2 fail read 0 0 0 0"},
	} {
		askEach(t, ahead, want, lines...)
		// Nothing is changed by it.
		for _, line := range lines {
			text := strings.Join(append(append([]string{}, ahead...), line, "events", "ops", "see 0 ok write 0 5 0 0"), "\n")
			ask(t, text, "1\n2\n3\n"+want+"\n0 invoke write 0 5 0 0; 1 invoke read 0 0 0 0; 1 info read 0 0 0 0\n2 2\n4")
		}
	}
}

// 21.1: events tells them as Text does, in one line.
func TestEvents(t *testing.T) {
	askAll(t,
		"events", "",
		"  see   0 invoke  swap 7 -3 1000000 0 ", "1",
		"events", "0 invoke swap 7 -3 1000000 0",
		"see 3 invoke unlock 0 0 0 0", "2",
		"see 0 ok swap 7 -3 1000000 1", "3",
		"events", "0 invoke swap 7 -3 1000000 0; 3 invoke unlock 0 0 0 0; 0 ok swap 7 -3 1000000 1",
		"see 3 fail unlock 0 0 0 0", "4",
		"events", "0 invoke swap 7 -3 1000000 0; 3 invoke unlock 0 0 0 0; 0 ok swap 7 -3 1000000 1; 3 fail unlock 0 0 0 0",
	)
}

// 21.1: ops tells how many there are, and how many have Return -1.
func TestOps(t *testing.T) {
	askAll(t,
		"see 0 invoke write 0 1 0 0", "1", "ops", "1 1",
		"see 1 invoke write 0 2 0 0", "2", "ops", "2 2",
		"see 0 ok write 0 1 0 0", "3", "ops", "2 1",
		"see 1 fail write 0 2 0 0", "4", "ops", "1 0",
		"see 1 invoke read 0 0 0 0", "5", "ops", "2 1",
		"see 1 info read 0 0 0 0", "6", "ops", "2 1",
		"see 2 invoke read 0 0 0 0", "7", "ops", "3 2",
		"see 2 ok read 0 0 0 1", "8", "ops", "3 1",
	)
}

// seen makes lines of ops that stand one behind the other, each `PROC KIND KEY A B RESULT`.
func seen(ops ...string) []string {
	var l []string
	for _, op := range ops {
		var proc, key, a, b, result int
		var kind string
		if _, err := fmt.Sscan(op, &proc, &kind, &key, &a, &b, &result); err != nil {
			panic(err)
		}
		l = append(l, fmt.Sprintf("see %d invoke %s %d %d %d 0", proc, kind, key, a, b), fmt.Sprintf("see %d ok %s %d %d %d %d", proc, kind, key, a, b, result))
	}
	return l
}

// 21.1: of each object, what is valid, and what is not.
func TestCheckObjects(t *testing.T) {
	for _, c := range []struct {
		object, wrong string
		right         []string
	}{
		{"register", "0 read 0 0 0 1", []string{"0 write 0 5 0 0", "1 swap 0 5 6 1", "0 swap 0 5 7 0", "1 read 0 0 0 6"}},
		{"counter", "0 get 1 0 0 3", []string{"0 add 0 3 0 3", "1 add 0 -5 0 -2", "0 get 0 0 0 -2"}},
		{"set", "0 has 0 4 0 1", []string{"0 put 0 4 0 1", "1 put 0 4 0 0", "0 has 0 4 0 1", "0 drop 0 4 0 1", "0 drop 0 4 0 0"}},
		{"queue", "0 pop 0 0 0 2", []string{"0 push 0 1 0 0", "1 push 0 2 0 0", "0 pop 0 0 0 1", "0 pop 0 0 0 2", "0 pop 0 0 0 -1"}},
		{"stack", "0 pop 0 0 0 2", []string{"0 push 0 1 0 0", "1 push 0 2 0 0", "0 pop 0 0 0 2", "0 pop 0 0 0 1", "0 pop 0 0 0 -1"}},
		{"mutex", "0 lock 0 0 0 0", []string{"0 lock 0 0 0 0", "0 unlock 0 0 0 0", "1 lock 0 0 0 0"}},
	} {
		valid := "valid " + numbersTo(len(c.right))
		askEach(t, seen(c.right...), valid, "check "+c.object, "same "+c.object)
		askEach(t, seen(append(c.right, c.wrong)...), "invalid", "check "+c.object)
	}
}

// 21.1: check keeps to the order of time, same to that of processes.
func TestCheckAndSame(t *testing.T) {
	askAll(t,
		"see 0 invoke write 0 5 0 0", "1", "see 0 ok write 0 5 0 0", "2",
		"see 1 invoke read 0 0 0 0", "3", "check register", "valid 0", "same register", "valid 0",
		"see 1 ok read 0 0 0 0", "4", "check register", "invalid", "same register", "valid 1 0",
		"see 0 invoke write 0 6 0 0", "5", "see 2 invoke read 0 0 0 0", "6",
		"see 2 ok read 0 0 0 7", "7", "check register", "invalid", "same register", "invalid",
		"clear", "clear",
		"see 0 invoke write 0 5 0 0", "1", "see 1 invoke read 0 0 0 0", "2", "see 1 ok read 0 0 0 5", "3",
		"check register", "valid 0 1", "same register", "valid 0 1", "ops", "2 1",
	)
}

// 21.1: a name that no object has, and ops that an object does not know.
func TestCheckNames(t *testing.T) {
	askEach(t, nil, "error 5", "check pile", "same pile", "check Register", "check registers", "check regist", "same 1", "check 0", "same read", "check -")
	askEach(t, manyEvents(), "error 5", "check pile", "same pile") // told ahead of what Check says
	askEach(t, seen("0 write 0 5 0 0"), "error 1", "check counter", "same counter", "check set", "check queue", "check stack", "check mutex", "same mutex")
	askEach(t, seen("0 write 0 5 0 0", "1 get 0 0 0 0"), "error 1", "check register", "same register", "check counter")
	askEach(t, seen("0 write 0 5 0 0", "1 read 0 0 0 5"), "valid 0 1", "check register", "same register")
}

// pushes are some beside each other, each of its own process, and a pop of what none pushed, behind them.
func pushes(n int) []string {
	var begin, end []string
	for p := range n {
		begin = append(begin, fmt.Sprintf("see %d invoke push 0 %d 0 0", p, p))
		end = append(end, fmt.Sprintf("see %d ok push 0 %d 0 0", p, p))
	}
	return append(append(begin, end...), "see 0 invoke pop 0 0 0 0", "see 0 ok pop 0 0 0 99")
}

// chains are processes that each put so many values into a set, and one more that finds the last ones of those first, as many as are linked, one behind the other, and then what is never put: so many states are entered, until that is found out.
func chains(sizes []int, linked int) []string {
	var ops []string
	for p, size := range sizes {
		for i := range size {
			ops = append(ops, fmt.Sprintf("%d put 0 %d 0 1", p, 10*p+i))
		}
	}
	for p := range linked {
		ops = append(ops, fmt.Sprintf("7 has 0 %d 0 1", 10*p+sizes[p]-1))
	}
	return seen(append(ops, "7 has 0 99 0 1")...)
}

// 21.1: a search enters 20,000 states, no more.
func TestBudget(t *testing.T) {
	askEach(t, pushes(7), "invalid", "check queue", "check stack", "same queue") // 13,700 states
	askEach(t, pushes(8), "unknown", "check queue", "check stack", "same queue") // 109,601
	// 5 * 5 * 5 * 5 * 4 * 4 * 2 states; one more: 3 * (1 + 6 * (1 + 6 * (1 + 4 * (1 + 5 * (1 + 2 * (1 + 3)))))).
	askEach(t, chains([]int{4, 4, 4, 4, 3, 3, 1}, 0), "invalid", "same set")
	askEach(t, chains([]int{2, 1, 4, 3, 5, 5, 2}, 6), "unknown", "same set")
}

// 21.1: zones tells that they fit, or both values; else what Fits says.
func TestZones(t *testing.T) {
	askEach(t, seen("0 write 0 5 0 0", "1 read 0 0 0 5"), "fits", "zones")
	askEach(t, seen("0 write 0 5 0 0", "0 write 0 6 0 0", "1 read 0 0 0 5"), "5 6", "zones")
	askEach(t, seen("0 write 0 -5 0 0", "1 read 0 0 0 0"), "0 -5", "zones")
	askEach(t, seen("0 write 0 5 0 0", "1 read 0 0 0 6"), "error 8", "zones")
	askEach(t, seen("0 write 0 5 0 0", "1 write 0 5 0 0"), "error 9", "zones")
	askEach(t, seen("0 write 0 5 0 0", "1 write 1 6 0 0"), "error 3", "zones")
	askEach(t, []string{"see 0 invoke write 0 5 0 0"}, "error 3", "zones")
}

// 21.1: queue tells the code, and both numbers; else what Finds says.
func TestQueue(t *testing.T) {
	askEach(t, seen("0 push 0 1 0 0", "1 pop 0 0 0 1"), "0 0 0", "queue")
	askEach(t, seen("0 push 0 1 0 0", "1 pop 0 0 0 2"), "1 1 1", "queue")
	askEach(t, seen("0 push 0 1 0 0", "1 pop 0 0 0 1", "0 pop 0 0 0 1"), "2 1 2", "queue")
	askEach(t, seen("1 pop 0 0 0 1", "0 push 0 1 0 0"), "3 1 0", "queue")
	askEach(t, seen("0 push 0 1 0 0", "0 push 0 2 0 0", "1 pop 0 0 0 2"), "4 0 1", "queue")
	askEach(t, seen("0 push 0 1 0 0", "0 push 0 1 0 0"), "error 9", "queue")
	askEach(t, seen("0 push 0 1 0 0", "0 read 0 1 0 0"), "error 3", "queue")
	askEach(t, seen("0 pop 0 0 0 -1"), "error 3", "queue")
}

// 21.1: causal tells the code, and both numbers; else what Finds says.
func TestCausal(t *testing.T) {
	askEach(t, seen("0 write 0 5 0 0", "1 read 0 0 0 5", "1 read 1 0 0 0"), "0 0 0", "causal")
	askEach(t, seen("0 write 0 5 0 0", "1 read 0 0 0 6"), "1 1 1", "causal")
	askEach(t, seen("0 read 0 0 0 5", "0 write 0 5 0 0"), "2 0 0", "causal")
	askEach(t, seen("0 write 0 5 0 0", "0 read 0 0 0 0"), "3 1 0", "causal")
	askEach(t, seen("0 write 0 5 0 0", "0 write 0 6 0 0", "0 read 0 0 0 5"), "4 2 1", "causal")
	askEach(t, seen("0 write 0 5 0 0", "1 write 0 5 0 0"), "error 9", "causal")
	askEach(t, seen("0 write 0 0 0 0"), "error 3", "causal")
	askEach(t, []string{"see 0 invoke read 0 0 0 0"}, "error 3", "causal")
}
