package desk_test

import (
	"fmt"
	"strings"
	"testing"

	"testimony/api"
	"testimony/desk"
)

// ask fails unless lines are answered so, a line each.
func ask(t *testing.T, lines, want string) {
	t.Helper()
	if got := desk.Session(lines); got != want+"\n" {
		t.Errorf("%.300q: %.600q, not %.600q", lines, got, want+"\n")
	}
}

// askAll asks for many lines, each with its answer behind it.
func askAll(t *testing.T, pairs ...string) {
	t.Helper()
	var lines, want []string
	for i := 0; i < len(pairs); i += 2 {
		lines, want = append(lines, pairs[i]), append(want, pairs[i+1])
	}
	ask(t, strings.Join(lines, "\n"), strings.Join(want, "\n"))
}

// askEach asks for each of some lines behind others, and for what it then is.
func askEach(t *testing.T, ahead []string, want string, lines ...string) {
	t.Helper()
	for _, line := range lines {
		text := strings.Join(append(append([]string{}, ahead...), line), "\n")
		got := strings.Split(desk.Session(text), "\n")
		if len(got) != len(ahead)+2 || got[len(ahead)] != want || got[len(ahead)+1] != "" {
			t.Errorf("%q: %q, not %q", text, got, want)
		}
	}
}

const helpLine = "careful causal check clashes clear events help ops queue same see sees steps zones"

// 21.1: the bound is told ahead of all else, once.
func TestLength(t *testing.T) {
	ask(t, strings.Repeat(" ", api.MaxText), "ok")
	ask(t, strings.Repeat(" ", api.MaxText+1), "error 4")
	ask(t, "help"+strings.Repeat("\n", api.MaxText-4), helpLine+strings.Repeat("\nok", api.MaxText-5))
	ask(t, "help"+strings.Repeat("\n", api.MaxText-3), "error 4")
	ask(t, strings.Repeat("x", api.MaxText), "error 3")
	ask(t, strings.Repeat("x", 3*api.MaxText), "error 4")
	ask(t, strings.Repeat("\n", api.MaxText+1), "error 4")
}

// 21.1: lines are cut at line feeds; one at the end is left out.
func TestLines(t *testing.T) {
	ask(t, "", "ok")
	ask(t, "\n", "ok")
	ask(t, "\n\n", "ok\nok")
	ask(t, "\n\n\n", "ok\nok\nok")
	ask(t, "clear", "clear")
	ask(t, "clear\n", "clear")
	ask(t, "clear\n\n", "clear\nok")
	ask(t, "\nclear", "ok\nclear")
	ask(t, "\n\nclear\n\nx\n", "ok\nok\nclear\nok\nerror 3")
}

// 21.1: words have blanks between, several, too, and at both ends; nothing else is a blank.
func TestWords(t *testing.T) {
	ask(t, " ", "ok")
	ask(t, "    \n  ", "ok\nok")
	ask(t, "  clear", "clear")
	ask(t, "clear   ", "clear")
	ask(t, "   steps   r0x0    c0   ", "2")
	ask(t, " see  0 invoke   write 1  2 3 0 ", "1")
	askEach(t, nil, "error 3", "\t", "\r", "clear\r", "\tclear", "clear\t", "\v", "\x00", "\u00a0", "\u3000clear", "\xff", "steps\tr0x0", "steps r0x0\tc0", "steps r0x0\r", "see\t0 invoke read 0 0 0 0", "see 0 invoke read 0 0 0 0\r")
	askEach(t, nil, "error 5", "check register\r", "check \tset", "same \u00a0", "see 0 invoke\r read 0 0 0 0")
}

// 21.1: ErrForm: what no line begins with, and words too few or too many.
func TestForm(t *testing.T) {
	askEach(t, nil, "error 3", "x", "Help", "HELP", "hel", "helps", "help?", "?", "error", "ok", "event", "op", "step", "look", "0", "r0x0", "-", ";", "quit")
	for _, name := range strings.Fields(helpLine) {
		switch name {
		case "see":
			askEach(t, nil, "error 3", "see", "see 0", "see 0 invoke", "see 0 invoke read", "see 0 invoke read 0 0 0", "see 0 invoke read 0 0 0 0 0", "see 0 invoke read 0 0 0 0 x")
		case "check", "same":
			askEach(t, nil, "error 3", name, name+" ", name+" register set", name+" register register", name+" pile pile", name+" set x")
		case "steps":
			askEach(t, nil, "0", "steps", "steps ")
		default:
			askEach(t, nil, "error 3", name+" x", name+" "+name, name+" 0", name+"  r0x0 c0")
		}
	}
}

// 21.1: help, whatever was told.
func TestHelp(t *testing.T) {
	ask(t, "help", helpLine)
	ask(t, "help\nsee 0 invoke read 0 0 0 0\nsteps r0x0\nhelp\n", helpLine+"\n1\n1\n"+helpLine)
}

// 21.1: clear lets go of events and of steps.
func TestClear(t *testing.T) {
	askAll(t,
		"see 0 invoke read 0 0 0 0", "1",
		"see 0 ok read 0 0 0 0", "2",
		"see 1 info read 0 0 0 0", "error 12",
		"steps r0x0 c0", "2",
		"clear", "clear",
		"events", "",
		"ops", "0 0",
		"sees", "order",
		"steps", "0",
		"see 0 ok read 0 0 0 0", "error 12",
		"see 0 invoke read 0 0 0 0", "1",
		"steps r0x0", "1",
	)
}

// 21.1: nothing is there at first.
func TestNothing(t *testing.T) {
	askAll(t,
		"events", "", "ops", "0 0", "zones", "fits", "queue", "0 0 0", "causal", "0 0 0",
		"check register", "valid", "same mutex", "valid",
		"clashes", "order", "sees", "order", "careful", "careful recover clean strict", "steps", "0",
	)
}

// 21.1: a session knows nothing of the one ahead.
func TestAlone(t *testing.T) {
	ask(t, "see 0 invoke read 0 0 0 0\nsteps r0x0\n", "1\n1")
	ask(t, "see 0 invoke read 0 0 0 0\nsteps r0x0\n", "1\n1")
	ask(t, "events\nops\n", "\n0 0")
}

// manyEvents are as many as may be.
func manyEvents() []string {
	var l []string
	for range api.MaxEvents / 2 {
		l = append(l, "see 0 invoke write 0 1 0 0", "see 0 ok write 0 1 0 0")
	}
	return l
}

// 21.1: as many events as may be.
func TestSeeLimit(t *testing.T) {
	l := manyEvents()
	askEach(t, l[1:], "error 12", "see 0 ok write 0 1 0 0")
	askEach(t, l, "error 4", "see 0 invoke write 0 1 0 0", "see 0 ok write 0 1 0 0")
	askEach(t, l, "error 3", "see x invoke write 0 1 0 0") // Parse is asked ahead of Ops
	askEach(t, l, "error 5", "see 0 begin write 0 1 0 0")
	askEach(t, l, "error 2", "see 8 invoke write 0 1 0 0")
	askEach(t, l, "error 1", "see 1 invoke write 0 1 0 1")
	askEach(t, l, "60 0", "ops")
	askEach(t, l, "error 4", "check register", "zones", "queue", "causal") // more than MaxOps
	askEach(t, append(l, "see 1 invoke write 0 1 0 0"), "60 0", "ops")
	askEach(t, append(l, "see 1 invoke write 0 1 0 0", "clear"), "1", "see 1 invoke write 0 1 0 0")
	askEach(t, l[:2*api.MaxOps], "valid"+strings.TrimSuffix(fmt.Sprintln("", numbersTo(api.MaxOps)), "\n"), "check register", "same register")
}

// numbersTo are those from 0 on, below n.
func numbersTo(n int) string {
	var l []string
	for i := range n {
		l = append(l, fmt.Sprint(i))
	}
	return strings.Join(l, " ")
}
