package gen_test

import (
	"fmt"
	"math"
	"slices"
	"strings"
	"testing"

	"testimony/api"
	"testimony/gen"
)

func parsed(t *testing.T, text string) gen.Gen {
	t.Helper()
	g, err := gen.Parse(text)
	if g == nil || err != nil {
		t.Fatalf("%q: %v", text, err)
	}
	return g
}

// callText is r3 to read key 3, w3=5 to write 5 to it.
func callText(c gen.Call) string {
	if c.Write {
		return fmt.Sprintf("w%d=%d", c.Key, c.Value)
	}
	if c.Value != 0 {
		return fmt.Sprint("a read of a value: ", c)
	}
	return fmt.Sprintf("r%d", c.Key)
}

func callsText(l []gen.Call) string {
	var words []string
	for _, c := range l {
		words = append(words, callText(c))
	}
	return strings.Join(words, " ")
}

// 19.3: which calls a tape makes, and how many of its numbers are used.
func TestNextByHand(t *testing.T) {
	for _, c := range []struct {
		text    string
		numbers []int
		most    int
		want    string
		used    int
	}{
		{"read 3", []int{1, 2}, 3, "r3 r3 r3", 0},
		{"read 3", nil, 0, "", 0},
		{"write 2 10 14", []int{0, 4, 5, -1}, 6, "w2=10 w2=14 w2=10 w2=10 w2=10 w2=10", 6},
		{"write 2 -3 3", []int{0, 6, 9}, 3, "w2=-3 w2=3 w2=-1", 3},
		{"write 2 5 5", []int{9}, 2, "w2=5 w2=5", 2},
		{"write 0 -1000000 1000000", []int{2000000, 2000001, 1}, 3, "w0=1000000 w0=-1000000 w0=-999999", 3},
		{"write 2 10 14", []int{3}, 0, "", 0},
		{"limit 2 read 3", nil, 9, "r3 r3", 0},
		{"limit 0 read 3", nil, 9, "", 0},
		{"limit 0 write 3 1 2", []int{1}, 9, "", 0},
		{"limit 2 write 3 1 2", []int{1, 0, 1}, 9, "w3=2 w3=1", 2},
		{"limit 5 limit 2 read 0", nil, 9, "r0 r0", 0},
		{"limit 2 limit 5 read 0", nil, 9, "r0 r0", 0},
		{"limit 1000 read 0", nil, 4, "r0 r0 r0 r0", 0},
		// Which one is asked is told by the tape, of one alone, too.
		{"mix (read 0)", []int{1, 2}, 3, "r0 r0 r0", 3},
		{"mix (read 0, read 1, read 2)", []int{2, 0, 4, -1}, 5, "r2 r0 r1 r0 r0", 5},
		{"mix (read 0, write 1 0 9)", []int{1, 7, 0, 1, 18}, 4, "w1=7 r0 w1=8 r0", 6},
		// Who has no more is left out, and another one is asked, of those that are left.
		{"mix (limit 1 read 0, limit 2 read 1, limit 0 read 2)", []int{2, 1, 0, 0, 0, 0, 0}, 9, "r1 r0 r1", 6},
		{"mix (limit 1 read 0, read 1, read 2)", []int{0, 0, 0, 1, 2}, 4, "r0 r1 r2 r1", 5},
		{"mix (limit 1 read 0, limit 1 read 1)", nil, 9, "r0 r1", 4},
		{"mix (limit 0 read 0)", []int{5, 6}, 9, "", 1},
		{"mix (limit 0 read 0, limit 0 read 1)", []int{5, 6}, 9, "", 2},
		{"limit 3 mix (limit 1 read 0, limit 1 read 1)", nil, 9, "r0 r1", 4},
		{"then (read 0, read 1)", []int{1}, 3, "r0 r0 r0", 0},
		{"then (limit 2 read 0, limit 1 read 1, limit 2 read 2)", nil, 9, "r0 r0 r1 r2 r2", 0},
		{"then (limit 0 read 0, limit 0 read 1, read 2)", nil, 2, "r2 r2", 0},
		{"then (limit 2 mix (read 0, read 1), write 2 0 5)", []int{1, 0, 4, 3}, 5, "r1 r0 w2=4 w2=3 w2=0", 5},
		{"then (mix (limit 1 read 0), read 1)", []int{9, 9, 9}, 3, "r0 r1 r1", 2},
		{"then (limit 0 read 0)", []int{5}, 9, "", 0},
		{"mix (then (limit 1 read 0, limit 1 read 1), limit 1 read 2)", []int{0, 1, 0, 0, 0}, 9, "r0 r2 r1", 5},
	} {
		tape := &gen.Tape{Numbers: c.numbers}
		l, err := gen.Take(parsed(t, c.text), tape, c.most)
		if got := callsText(l); err != nil || got != c.want || tape.Used() != c.used {
			t.Errorf("%s by %v: %s (%v), %d used, not %s, %d", c.text, c.numbers, got, err, tape.Used(), c.want, c.used)
		}
	}
}

// 19.3: who had no more has no more, and uses no more of the tape.
func TestNoMore(t *testing.T) {
	for _, text := range []string{"limit 1 write 0 1 9", "mix (limit 1 write 0 1 9)", "then (limit 1 write 0 1 9)", "limit 2 mix (limit 1 write 0 1 9)"} {
		g, tape := parsed(t, text), &gen.Tape{Numbers: []int{3, 3, 3, 3}}
		g.Next(tape)
		g.Next(tape)
		used := tape.Used()
		for range 5 {
			if c, ok := g.Next(tape); ok || c != (gen.Call{}) || tape.Used() != used {
				t.Errorf("%s: %v, %v, %d used", text, c, ok, tape.Used())
			}
		}
	}
}

// 19.3: a generator goes on where it was, by another tape, too; one that is read again begins anew.
func TestGoesOn(t *testing.T) {
	text := "then (limit 3 read 0, limit 2 write 1 0 9)"
	g := parsed(t, text)
	for _, c := range []struct {
		numbers []int
		most    int
		want    string
	}{{nil, 2, "r0 r0"}, {[]int{4}, 2, "r0 w1=4"}, {[]int{7, 8}, 0, ""}, {[]int{7, 8}, 9, "w1=7"}, {[]int{7, 8}, 9, ""}} {
		if l, err := gen.Take(g, &gen.Tape{Numbers: c.numbers}, c.most); err != nil || callsText(l) != c.want {
			t.Errorf("%v, %v, not %s", callsText(l), err, c.want)
		}
	}
	if l, err := gen.Take(parsed(t, text), &gen.Tape{}, 9); err != nil || callsText(l) != "r0 r0 r0 w1=0 w1=0" {
		t.Errorf("%v, %v", l, err)
	}
}

// P1: a generator that is asked without a tape.
func TestNoTape(t *testing.T) {
	g := parsed(t, "mix (write 0 4 9, limit 1 read 1)")
	if c, ok := g.Next(nil); !ok || callText(c) != "w0=4" {
		t.Error(c, ok)
	}
}

// 19.3: what Take says.
func TestTakeErrors(t *testing.T) {
	g, tape := parsed(t, "write 0 0 9"), &gen.Tape{Numbers: []int{5}}
	for _, c := range []struct {
		g    gen.Gen
		tape *gen.Tape
		most int
		want error
	}{
		{nil, tape, 1, api.ErrMissing}, {g, nil, 1, api.ErrMissing}, {nil, nil, 1, api.ErrMissing}, {nil, tape, -1, api.ErrMissing}, {g, nil, 1001, api.ErrMissing}, {nil, nil, 0, api.ErrMissing},
		{g, tape, -1, api.ErrRange}, {g, tape, 1001, api.ErrRange}, {g, tape, math.MinInt, api.ErrRange}, {g, tape, math.MaxInt, api.ErrRange},
	} {
		if l, err := gen.Take(c.g, c.tape, c.most); len(l) != 0 || err != c.want || tape.Used() != 0 {
			t.Errorf("%v, %v, %d: %v, %v, not %v", c.g, c.tape, c.most, l, err, c.want)
		}
	}
	if l, err := gen.Take(g, tape, 1000); len(l) != 1000 || err != nil || tape.Used() != 1000 || l[0].Value != 5 {
		t.Errorf("%d calls, %v, %d used", len(l), err, tape.Used())
	}
}

// count is a generator of the test's own: whatever has Next is one.
type count struct{ left, asked int }

func (c *count) Next(tape *gen.Tape) (gen.Call, bool) {
	c.asked++
	if c.left == 0 {
		return gen.Call{Key: 9}, false
	}
	c.left--
	return gen.Call{Key: tape.Below(4)}, true
}

// 19.3: it is asked until it has no more, or there are enough.
func TestTakeAsks(t *testing.T) {
	for _, c := range []struct{ left, most, want, asked int }{{3, 9, 3, 4}, {3, 3, 3, 3}, {3, 2, 2, 2}, {0, 5, 0, 1}, {0, 0, 0, 0}} {
		g := &count{left: c.left}
		if l, err := gen.Take(g, &gen.Tape{}, c.most); len(l) != c.want || err != nil || g.asked != c.asked {
			t.Errorf("%v: %v, %v, asked %d times", c, l, err, g.asked)
		}
	}
}

// P4: numbers are not written into, and what is told is the caller's.
func TestTakeMemory(t *testing.T) {
	room := []int{3, 1, 4, 1, 5}
	was := slices.Clone(room)
	tape := &gen.Tape{Numbers: room[:3]}
	g := parsed(t, "mix (write 0 0 9, limit 1 read 1)")
	first, err := gen.Take(g, tape, 3)
	if err != nil {
		t.Fatal(err)
	}
	want := callsText(first)
	second, err := gen.Take(g, tape, 3)
	if err != nil {
		t.Fatal(err)
	}
	for i := range second {
		second[i].Key = 7
	}
	_ = append(second[:1], gen.Call{Key: 6})
	if callsText(first) != want || !slices.Equal(room, was) {
		t.Error(callsText(first), want, room)
	}
}
