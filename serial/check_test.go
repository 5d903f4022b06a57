package serial_test

import (
	"errors"
	"math"
	"slices"
	"strconv"
	"strings"
	"testing"

	"testimony/api"
	"testimony/serial"
)

// steps are those of a text: r0x1 is a Read of transaction 0 at key 1, w a Write, c0 a Commit of it, a0 an Abort.
func steps(text string) []serial.Step {
	var l []serial.Step
	for _, word := range strings.Fields(text) {
		tx, key, _ := strings.Cut(word[1:], "x")
		s := serial.Step{Kind: strings.IndexByte(" rwca", word[0])}
		s.Tx, _ = strconv.Atoi(tx)
		s.Key, _ = strconv.Atoi(key)
		l = append(l, s)
	}
	return l
}

// isAt says whether an error is that one at that place; -1: without a place.
func isAt(err error, want api.Errno, place int) bool {
	if place < 0 {
		return err == error(want)
	}
	var at *api.At
	return errors.As(err, &at) && at.Err == want && at.Place == place
}

// checkFault asks whether all but Done tell want at that place, and nothing beside it.
func checkFault(t *testing.T, name string, l []serial.Step, want api.Errno, place int) {
	t.Helper()
	tell := func(face string, empty bool, err error) {
		t.Helper()
		if !empty || !isAt(err, want, place) {
			t.Errorf("%s: %s tells %v (%#v), nothing beside it: %v; not %v at %d", name, face, err, err, empty, want, place)
		}
	}
	tell("Check", true, serial.Check(l))
	g, err := serial.Graph(l)
	tell("Graph", g == nil, err)
	order, cycle, err := serial.Clashes(l)
	tell("Clashes", order == nil && cycle == nil, err)
	order, err = serial.Sees(l)
	tell("Sees", order == nil, err)
	kind, err := serial.Careful(l)
	tell("Careful", kind == serial.Kind{}, err)
}

func checkFine(t *testing.T, name string, l []serial.Step) {
	t.Helper()
	if err := serial.Check(l); err != nil {
		t.Errorf("%s: %v", name, err)
	}
}

// The kinds' numbers are told by the document.
func TestKinds(t *testing.T) {
	if serial.Read != 1 || serial.Write != 2 || serial.Commit != 3 || serial.Abort != 4 {
		t.Errorf("%d, %d, %d, %d", serial.Read, serial.Write, serial.Commit, serial.Abort)
	}
}

// 11.1: what may be.
func TestCheckFine(t *testing.T) {
	checkFine(t, "nothing", nil)
	for _, text := range []string{
		"r0x0", "w0x0", "c0", "a0", "r7x7 w7x7", "c7", "a7",
		"r0x0 w1x0 c1 w0x0 c0", "c0 r1x0 a1 w2x0", "r0x0 r0x0 w0x0 w0x0 c0", "a0 a1 c2 c3 a4 a5 c6 c7",
	} {
		checkFine(t, text, steps(text))
	}
}

// 11.1: as many steps as may be, and one more: that is told ahead of all else, without a place.
func TestCheckLimit(t *testing.T) {
	l := slices.Repeat(steps("r0x0 w1x1 r7x7"), api.MaxSteps/3)
	checkFine(t, "just as many", l)
	checkFault(t, "one more", append(slices.Clone(l), steps("c0")...), api.ErrLimit, -1)
	checkFault(t, "far more", slices.Repeat(l, 20), api.ErrLimit, -1)
	l[0] = steps("r8x0")[0]
	checkFault(t, "just as many, one wrong", l, api.ErrRange, 0)
	checkFault(t, "one more, one wrong", append(l, steps("c0")...), api.ErrLimit, -1)
}

// 11.1: ErrRange.
func TestCheckRange(t *testing.T) {
	for _, s := range []serial.Step{
		{Tx: -1, Kind: serial.Read}, {Tx: api.MaxTx, Kind: serial.Write}, {Tx: math.MaxInt, Kind: serial.Commit}, {Tx: math.MinInt, Kind: serial.Abort},
		{Kind: serial.Read, Key: -1}, {Kind: serial.Write, Key: api.MaxKeys}, {Kind: serial.Read, Key: math.MaxInt}, {Kind: serial.Write, Key: math.MinInt},
		{Kind: serial.Commit, Key: -1}, {Kind: serial.Abort, Key: api.MaxKeys}, {Key: api.MaxKeys}, {Kind: 5, Key: -1}, {Tx: -1}, {Tx: api.MaxTx, Kind: -1},
		{Tx: -1, Kind: serial.Commit, Key: 1}, {Tx: api.MaxTx, Key: api.MaxKeys},
	} {
		checkFault(t, "first", []serial.Step{s}, api.ErrRange, 0)
		checkFault(t, "last", append(steps("r0x0 w0x7 c7"), s), api.ErrRange, 3)
		checkFault(t, "its transaction is over", append(steps("c0"), s), api.ErrRange, 1)
	}
}

// 11.1: ErrArg.
func TestCheckArg(t *testing.T) {
	for _, s := range []serial.Step{
		{}, {Kind: -1}, {Kind: 5}, {Kind: math.MaxInt}, {Kind: math.MinInt}, {Tx: 7, Key: 7},
		{Kind: serial.Commit, Key: 1}, {Kind: serial.Abort, Key: 1}, {Tx: 7, Kind: serial.Commit, Key: 7}, {Tx: 7, Kind: serial.Abort, Key: 7},
	} {
		checkFault(t, "first", []serial.Step{s}, api.ErrArg, 0)
		checkFault(t, "last", append(steps("r0x0 w0x7 c6"), s), api.ErrArg, 3)
		checkFault(t, "its transaction is over", append(steps("c0 a7"), s), api.ErrArg, 2)
	}
}

// 11.1: ErrState: behind its own Commit or Abort.
func TestCheckState(t *testing.T) {
	for _, over := range []string{"c0", "a0"} {
		for _, late := range []string{"r0x0", "w0x7", "c0", "a0"} {
			checkFault(t, over+" "+late, steps(over+" "+late), api.ErrState, 1)
			checkFault(t, over+" .. "+late, steps("r0x0 w1x0 "+over+" c1 r2x0 r3x1 "+late+" c2"), api.ErrState, 6)
		}
	}
	checkFault(t, "the last one", steps("w7x7 a7 r7x7"), api.ErrState, 2)
	checkFault(t, "another one is over later", steps("c0 r1x0 c1 r0x0 r1x0"), api.ErrState, 3)
	checkFine(t, "others", steps("c0 r1x0 a1 w2x0 c2 r3x0 w3x0"))
}

// 11.1: step by step: of two that are wrong the first one's is told.
func TestCheckStepByStep(t *testing.T) {
	wrong := []struct {
		s    serial.Step
		want api.Errno
	}{
		{serial.Step{Tx: -1, Kind: serial.Read}, api.ErrRange},
		{serial.Step{Tx: 1}, api.ErrArg},
		{serial.Step{Kind: serial.Read}, api.ErrState},
	}
	for _, a := range wrong {
		for _, b := range wrong {
			checkFault(t, "two wrong", append(steps("r1x0 c0"), a.s, b.s), a.want, 2)
		}
	}
}

func checkDone(t *testing.T, name string, l, want []serial.Step) {
	t.Helper()
	if done := serial.Done(l); !slices.Equal(done, want) {
		t.Errorf("%s: %v, not %v", name, done, want)
	}
}

// 11.1: Done: what is read and written by those that commit, in order.
func TestDone(t *testing.T) {
	for text, want := range map[string]string{
		"":                                       "",
		"c0":                                     "",
		"r0x0 w0x1":                              "",
		"r0x0 w0x1 a0":                           "",
		"r0x0 w0x1 c0":                           "r0x0 w0x1",
		"w0x0 w0x0 r0x0 c0":                      "w0x0 w0x0 r0x0",
		"r0x0 w1x0 r2x0 c1 w0x0 a2 c0":           "r0x0 w1x0 w0x0",
		"w7x7 r3x1 c7 w3x2":                      "w7x7",
		"r1x0 w0x0 r1x1 w0x1 r2x2 w0x2 c0 c1 a2": "r1x0 w0x0 r1x1 w0x1 w0x2",
	} {
		checkDone(t, text, steps(text), steps(want))
	}
}

// 11.1: Done is told of any steps: those below Commit are taken, of transactions that may be.
func TestDoneOfAny(t *testing.T) {
	low := []serial.Step{{Kind: 0}, {Kind: -1, Key: 9}, {Kind: math.MinInt, Key: -1}, {Kind: serial.Read, Key: math.MaxInt}}
	checkDone(t, "kinds below Read", append(slices.Clone(low), steps("c0")...), low)
	checkDone(t, "kinds beyond", append([]serial.Step{{Kind: 5}, {Kind: math.MaxInt}, {Kind: serial.Write}}, steps("c0")...), steps("w0x0"))
	checkDone(t, "a Kind beyond is no Commit", []serial.Step{{Kind: serial.Write}, {Kind: 5}}, nil)
	checkDone(t, "behind the Commit", steps("w0x0 c0 r0x1 a0 w0x2"), steps("w0x0 r0x1 w0x2"))
	checkDone(t, "two Commits", steps("c0 w0x0 c0"), steps("w0x0"))
	checkDone(t, "an Abort ahead of the Commit", steps("w0x0 a0 c0"), steps("w0x0"))
	checkDone(t, "a Commit at a key", []serial.Step{{Kind: serial.Write}, {Kind: serial.Commit, Key: -5}}, steps("w0x0"))
	for _, tx := range []int{-1, api.MaxTx, math.MaxInt, math.MinInt} {
		l := []serial.Step{{Tx: tx, Kind: serial.Write}, {Tx: 7, Kind: serial.Read, Key: 1}, {Tx: tx, Kind: serial.Commit}, {Tx: 7, Kind: serial.Commit}}
		checkDone(t, "a transaction beyond", l, l[1:2])
	}
	long := slices.Repeat(steps("r0x0 w1x1"), 1000)
	checkDone(t, "more than MaxSteps", append(slices.Clone(long), steps("c0 c1")...), long)
}
