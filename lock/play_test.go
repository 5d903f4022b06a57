package lock_test

import (
	"fmt"
	"math"
	"slices"
	"strconv"
	"strings"
	"testing"

	"testimony/api"
	"testimony/lock"
	"testimony/serial"
)

// told is an outcome as a text: r0x1 is a Read of transaction 0 at key 1, w a Write, c0 a Commit of it, a0 an Abort; then who waited how often, and who was ended.
func told(o lock.Outcome) string {
	var words []string
	for _, s := range o.Done {
		word := string(" rwca"[s.Kind]) + strconv.Itoa(s.Tx)
		if s.Kind < serial.Commit {
			word += "x" + strconv.Itoa(s.Key)
		} else if s.Key != 0 {
			word += "?"
		}
		words = append(words, word)
	}
	return fmt.Sprint(strings.Join(words, " "), " | ", o.Waits, " ", o.Victim)
}

// checkPlay asks what is done by a plan, if these go on, a digit each.
func checkPlay(t *testing.T, text, picks, done string, waits, victim []int) {
	t.Helper()
	var l []int
	for _, pick := range picks {
		l = append(l, int(pick-'0'))
	}
	checkOutcome(t, text+", picks "+picks, plan(text), l, fmt.Sprint(done, " | ", waits, " ", victim))
}

func checkOutcome(t *testing.T, name string, p lock.Plan, picks []int, want string) {
	t.Helper()
	if o, err := lock.Play(p, picks); err != nil || told(o) != want {
		t.Errorf("%s: %s, %v, not %s", name, told(o), err, want)
	}
}

// 13.2: without picks all go on, in order, a step each, again and again; who has done all its steps commits.
func TestRounds(t *testing.T) {
	checkPlay(t, "", "", "", nil, nil)
	checkPlay(t, ";", "", "c0 c1", []int{0, 0}, nil)
	checkPlay(t, "r0", "", "r0x0 c0", []int{0}, nil)
	checkPlay(t, "r0 w0 r0 w0", "", "r0x0 w0x0 r0x0 w0x0 c0", []int{0}, nil)
	checkPlay(t, "r0; r0", "", "r0x0 r1x0 c0 c1", []int{0, 0}, nil)
	checkPlay(t, "w0 w1; w2; ; w7 r7 w6", "", "w0x0 w1x2 c2 w3x7 w0x1 c1 r3x7 c0 w3x6 c3", []int{0, 0, 0, 0}, nil)
}

// 13.2: picks tell who goes on first; what is no transaction is passed over, and one that is over does nothing.
func TestPicks(t *testing.T) {
	checkPlay(t, "r0 w0; r1 w1", "11100", "r1x1 w1x1 c1 r0x0 w0x0 c0", []int{0, 0}, nil)
	checkPlay(t, "r0 w0; r1 w1", "1", "r1x1 r0x0 w1x1 w0x0 c1 c0", []int{0, 0}, nil)
	checkPlay(t, "r0 w0; r1 w1", "11111110", "r1x1 w1x1 c1 r0x0 w0x0 c0", []int{0, 0}, nil)
	checkPlay(t, "r0 w0; r1 w1", "0000111000111", "r0x0 w0x0 c0 r1x1 w1x1 c1", []int{0, 0}, nil)
	checkPlay(t, "; ;", "2101", "c2 c1 c0", []int{0, 0, 0}, nil)
	p := plan("r0; r1")
	for _, pick := range []int{-1, 2, api.MaxTx, math.MaxInt, math.MinInt} {
		checkOutcome(t, "none beside", p, []int{pick, 1, pick, pick, 1}, "r1x1 c1 r0x0 c0 | [0 0] []")
		checkOutcome(t, "nothing to pick", nil, []int{pick, 0}, " | [] []")
	}
}

// 13.2: who stands against whom: a writer against all others, a reader against others that write, none against itself.
func TestAgainst(t *testing.T) {
	checkPlay(t, "r0; r0", "0110", "r0x0 r1x0 c1 c0", []int{0, 0}, nil)
	checkPlay(t, "w0; r0", "011", "w0x0 c0 r1x0 c1", []int{0, 2}, nil)
	checkPlay(t, "r0; w0", "011", "r0x0 c0 w1x0 c1", []int{0, 2}, nil)
	checkPlay(t, "w0; w0", "011", "w0x0 c0 w1x0 c1", []int{0, 2}, nil)
	checkPlay(t, "w0; w1", "011", "w0x0 w1x1 c1 c0", []int{0, 0}, nil)
	checkPlay(t, "w7; r6", "011", "w0x7 r1x6 c1 c0", []int{0, 0}, nil)
	checkPlay(t, "r0 r0 w0 w0 r0", "", "r0x0 r0x0 w0x0 w0x0 r0x0 c0", []int{0}, nil)
}

// 13.2: a lock that is held to write stays so if it is read behind it, and one that is held to read is held to write, too, once it is written.
func TestHeldBoth(t *testing.T) {
	checkPlay(t, "w0 r0; r0", "001", "w0x0 r0x0 c0 r1x0 c1", []int{0, 1}, nil)
	checkPlay(t, "r0 w0; r0", "001", "r0x0 w0x0 c0 r1x0 c1", []int{0, 1}, nil)
	checkPlay(t, "r0 w0; r0", "01", "r0x0 r1x0 c1 w0x0 c0", []int{1, 0}, nil)
	checkPlay(t, "r0 w0; ; r0", "02", "r0x0 r2x0 c1 c2 w0x0 c0", []int{1, 0, 0}, nil)
}

// 13.2: locks are held until their transaction is over, not only while it does a step.
func TestHeldToTheEnd(t *testing.T) {
	checkPlay(t, "w0 r1 r2 r3; r0", "0111100001", "w0x0 r0x1 r0x2 r0x3 c0 r1x0 c1", []int{0, 4}, nil)
	checkPlay(t, "r0 r1 r2; w0", "011000111", "r0x0 r0x1 r0x2 c0 w1x0 c1", []int{0, 2}, nil)
	checkPlay(t, "w0 w1; w1 r0 w2; r2 w0", "02010", "w0x0 r2x2 w0x1 c0 w1x1 w2x0 c2 r1x0 w1x2 c1", []int{0, 2, 0}, nil)
}

// 13.2: where waiting goes round, the greatest one is ended, whoever finds it; its locks are free, and it does nothing any more.
func TestRound(t *testing.T) {
	checkPlay(t, "w0 w1; w1 w0", "", "w0x0 w1x1 a1 w0x1 c0", []int{1, 1}, []int{1})
	checkPlay(t, "w0 w1; w1 w0", "0110", "w0x0 w1x1 a1 w0x1 c0", []int{1, 1}, []int{1})
	checkPlay(t, "w0 w1; w1 w0", "0110111100", "w0x0 w1x1 a1 w0x1 c0", []int{1, 1}, []int{1})
	checkPlay(t, "r0 w1; r1 w0", "", "r0x0 r1x1 a1 w0x1 c0", []int{1, 1}, []int{1})
	checkPlay(t, "r0 w0; r0 w0", "", "r0x0 r1x0 a1 w0x0 c0", []int{1, 1}, []int{1})
	checkPlay(t, "; r0 w0; ; r0 w0", "13", "r1x0 r3x0 c0 c2 a3 w1x0 c1", []int{0, 1, 0, 1}, []int{3})
	checkPlay(t, "w0 w1; w1 w2; w2 w0", "", "w0x0 w1x1 w2x2 a2 w1x2 c1 w0x1 c0", []int{3, 1, 1}, []int{2})
	checkPlay(t, "w0 w1; w1 w2; w2 w0", "012120", "w0x0 w1x1 w2x2 a2 w1x2 c1 w0x1 c0", []int{3, 1, 1}, []int{2})
	checkPlay(t, "w0 w1; w1 w0; w2 w3; w3 w2", "", "w0x0 w1x1 w2x2 w3x3 a1 a3 w0x1 w2x3 c0 c2", []int{1, 1, 1, 1}, []int{1, 3})
}

// 13.2: one that only waits for those on the way round, or is only waited for by them, is not on it.
func TestBesideTheRound(t *testing.T) {
	checkPlay(t, "w0 w1; w1 w0; r0", "01201", "w0x0 w1x1 a1 w0x1 c0 r2x0 c2", []int{1, 1, 2}, []int{1})
	checkPlay(t, "r0 w1; w1 w0; r0", "01201", "r0x0 w1x1 r2x0 a1 w0x1 c2 c0", []int{1, 1, 0}, []int{1})
	checkPlay(t, "w0; r0; r0", "01212", "w0x0 c0 r1x0 r2x0 c1 c2", []int{0, 2, 2}, nil)
}

// 13.2: one is ended at a time: the greatest of all that wait for each other, also where the way there and back goes over one of them twice; who is over waits for nobody.
func TestOneAtATime(t *testing.T) {
	checkPlay(t, "r0 w1; w1 w0; r0 w1; r0 w1", "01232310", "r0x0 w1x1 r2x0 r3x0 a3 a2 a1 w0x1 c0", []int{2, 1, 1, 1}, []int{3, 2, 1})
}

// 13.2: one waits for those that stood against it when it went on, until it goes on the next time.
func TestWaitsForThoseOfThen(t *testing.T) {
	checkPlay(t, "w1 w0; r0; r0 r1", "010221", "w0x1 r1x0 r2x0 c1 a2 w0x0 c0", []int{2, 0, 1}, []int{2})
}

// 13.2: as many as may be, each waiting for the next one.
func TestRing(t *testing.T) {
	checkPlay(t, "w0 w1; w1 w2; w2 w3; w3 w4; w4 w5; w5 w6; w6 w7; w7 w0", "",
		"w0x0 w1x1 w2x2 w3x3 w4x4 w5x5 w6x6 w7x7 a7 w6x7 c6 w5x6 c5 w4x5 c4 w3x4 c3 w2x3 c2 w1x2 c1 w0x1 c0",
		[]int{13, 11, 9, 7, 5, 3, 1, 1}, []int{7})
}

// P4: nothing that is handed in is written into or kept, nor what stands behind its length; what comes out is fresh.
func TestArgumentStays(t *testing.T) {
	room := plan("w0 w1 r7 w8; w1 w0 r6; r0 w9; w5")
	picks := []int{0, 1, 1, 9, 0, 7, 7}
	was, wasPicks := deepCopy(room), slices.Clone(picks)
	p := slices.Clone(room)[:3]
	p[0], p[1], p[2] = p[0][:2], p[1][:2], p[2][:1]
	for range 2 {
		if err := lock.Check(p); err != nil {
			t.Fatal(err)
		}
		o, err := lock.Play(p, picks[:5])
		if want := "w0x0 w1x1 a1 w0x1 c0 r2x0 c2 | [1 1 1] [1]"; err != nil || told(o) != want {
			t.Fatalf("%s, %v, not %s", told(o), err, want)
		}
		done := o.Done[:cap(o.Done)]
		for n := range done {
			done[n] = serial.Step{Tx: 9, Kind: 9, Key: 9}
		}
		for _, l := range [][]int{o.Waits[:cap(o.Waits)], o.Victim[:cap(o.Victim)]} {
			for n := range l {
				l[n] = 9
			}
		}
		if o.Waits[0] != 9 || o.Victim[0] != 9 || o.Done[0].Tx != 9 {
			t.Error(o)
		}
	}
	if !slices.EqualFunc(room, was, slices.Equal[[]serial.Step]) || !slices.Equal(picks, wasPicks) {
		t.Errorf("%v was %v, %v was %v", room, was, picks, wasPicks)
	}
}
