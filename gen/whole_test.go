package gen_test

import (
	"fmt"
	"math/big"
	"regexp"
	"slices"
	"strings"
	"testing"

	"testimony/api"
	"testimony/gen"
)

// die: numbers that look drawn, the same each time.
type die uint64

func (d *die) n(most int) int {
	*d = *d*6364136223846793005 + 1442695040888963407
	return int(uint64(*d>>33) % uint64(most))
}

// tree is a generator as the chapter tells it; gave is how many calls it gave, out whether it was left out.
type tree struct {
	name          string
	key, low, top int
	times         int
	parts         []*tree
	gave          int
	out           bool
}

// text writes a tree, with blanks here and there.
func (w *tree) text(d *die) string {
	blank := func() string { return strings.Repeat(" ", d.n(3)/2) }
	switch w.name {
	case "read":
		return fmt.Sprintf("read %s%d", blank(), w.key)
	case "write":
		return fmt.Sprintf("write %d %s%d %d", w.key, blank(), w.low, w.top)
	case "limit":
		return fmt.Sprintf("limit %d %s%s", w.times, blank(), w.parts[0].text(d))
	}
	var l []string
	for _, p := range w.parts {
		l = append(l, blank()+p.text(d)+blank())
	}
	return w.name + blank() + "(" + strings.Join(l, ",") + ")"
}

// draw is a tree of at most so many parts in one another.
func draw(d *die, deep int) *tree {
	kind := d.n(5)
	if deep == 0 {
		kind = d.n(2)
	}
	w := &tree{name: []string{"read", "write", "limit", "mix", "then"}[kind], key: d.n(api.MaxKeys), low: d.n(20) - 10, times: d.n(5)}
	w.top = w.low + d.n(6)
	count := []int{0, 0, 1, 1 + d.n(4), 1 + d.n(4)}[kind]
	for range count {
		w.parts = append(w.parts, draw(d, deep-1))
	}
	return w
}

// reel is a tape as the chapter tells it.
type reel struct {
	numbers []int
	used    int
}

func (r *reel) below(n int) int {
	next := new(big.Int)
	if r.used < len(r.numbers) {
		next.SetInt64(int64(r.numbers[r.used]))
	}
	r.used++
	// Of 64 bits, without a sign; a big number's Mod is never below 0.
	next.Mod(next, new(big.Int).Lsh(big.NewInt(1), 64))
	return int(next.Mod(next, big.NewInt(int64(n))).Int64())
}

// next is promise 19.3 word by word.
func (w *tree) next(r *reel) (gen.Call, bool) {
	switch w.name {
	case "read":
		return gen.Call{Key: w.key}, true
	case "write":
		return gen.Call{Write: true, Key: w.key, Value: w.low + r.below(w.top-w.low+1)}, true
	case "limit":
		if w.gave == w.times {
			return gen.Call{}, false
		}
		c, ok := w.parts[0].next(r)
		if ok {
			w.gave++
		}
		return c, ok
	}
	var left []*tree
	for _, p := range w.parts {
		if !p.out {
			left = append(left, p)
		}
	}
	if len(left) == 0 {
		return gen.Call{}, false
	}
	which := 0
	if w.name == "mix" {
		which = r.below(len(left))
	}
	c, ok := left[which].next(r)
	if ok {
		return c, true
	}
	left[which].out = true
	return w.next(r)
}

// 19.3: what is given, and how much of the tape is used, is that of the promise's own words.
func TestNextIsPlain(t *testing.T) {
	d := die(1)
	ended, full := 0, 0
	for range 20_000 {
		w := draw(&d, d.n(5))
		text := w.text(&d)
		if len(text) > 2000 {
			continue
		}
		var numbers []int
		for range d.n(40) {
			numbers = append(numbers, d.n(100)-20)
		}
		g, err := gen.Parse(text)
		if err != nil {
			t.Fatalf("%s: %v", text, err)
		}
		most, tape, r := d.n(30), &gen.Tape{Numbers: numbers}, &reel{numbers: numbers}
		got, err := gen.Take(g, tape, most)
		var want []gen.Call
		for len(want) < most {
			c, ok := w.next(r)
			if !ok {
				break
			}
			want = append(want, c)
		}
		if err != nil || !slices.Equal(got, want) || tape.Used() != r.used {
			t.Fatalf("%s by %v: %v, %v, %d used, not %v, %d", text, numbers, got, err, tape.Used(), want, r.used)
		}
		if len(want) < most {
			ended++
		} else {
			full++
		}
	}
	if ended < 1000 || full < 1000 {
		t.Error("too few of a kind:", ended, full)
	}
}

// The whole, 12: a tape makes the same calls each time.
func TestSameEachTime(t *testing.T) {
	d := die(2)
	for range 2000 {
		text := draw(&d, 3).text(&d)
		if len(text) > 2000 {
			continue
		}
		var numbers []int
		for range d.n(40) {
			numbers = append(numbers, d.n(1000))
		}
		var first string
		for i := range 3 {
			tape := &gen.Tape{Numbers: numbers}
			l, err := gen.Take(parsed(t, text), tape, 50)
			told := fmt.Sprint(l, err, tape.Used())
			if i == 0 {
				first = told
			}
			if told != first {
				t.Fatalf("%s by %v: %s, then %s", text, numbers, first, told)
			}
		}
	}
}

// await is what may stand next: a generator that so many stand around, a number, a bracket, what goes on in a list.
type await struct {
	what           string
	around         int
	least, biggest int
}

// plainFault is promise 19.2 told from the left, with a pile of what is awaited; the place is -1, if nothing is wrong.
func plainFault(text string) (api.Errno, int) {
	numeral := regexp.MustCompile(`^(0|-?[1-9][0-9]*)$`)
	pile := []await{{what: "end"}, {what: "gen"}}
	cuts := regexp.MustCompile(`[(),]|[^(), ]+`).FindAllStringIndex(text, -1)
	cuts = append(cuts, []int{len(text), len(text)})
	for _, c := range cuts {
		word, place := text[c[0]:c[1]], c[0]
		top := pile[len(pile)-1]
		pile = pile[:len(pile)-1]
		add := func(l ...await) { pile = append(pile, l...) }
		inner := top.around + 1
		switch {
		case top.what == "gen" && top.around >= 20:
			return api.ErrLimit, place
		case top.what == "gen" && word == "read":
			add(await{what: "number", biggest: 7})
		case top.what == "gen" && word == "write":
			add(await{what: "top"}, await{what: "low", least: -1_000_000, biggest: 1_000_000}, await{what: "number", biggest: 7})
		case top.what == "gen" && word == "limit":
			add(await{what: "gen", around: inner}, await{what: "number", biggest: 1000})
		case top.what == "gen" && (word == "mix" || word == "then"):
			add(await{what: "more", around: inner}, await{what: "gen", around: inner}, await{what: "("})
		case top.what == "more" && word == ",":
			add(await{what: "more", around: top.around}, await{what: "gen", around: top.around})
		case top.what == "more" && word == ")", top.what == "(" && word == "(", top.what == "end" && word == "":
		case (top.what == "number" || top.what == "low" || top.what == "top") && numeral.MatchString(word):
			n, _ := new(big.Int).SetString(word, 10)
			if n.Cmp(big.NewInt(int64(top.least))) < 0 || n.Cmp(big.NewInt(int64(top.biggest))) > 0 {
				return api.ErrRange, place
			}
			if top.what == "low" {
				pile[len(pile)-1] = await{what: "top", least: int(n.Int64()), biggest: 1_000_000}
			}
		default:
			return api.ErrForm, place
		}
	}
	return api.OK, -1
}

// spoilt is a text with some bytes or words of it changed.
func spoilt(d *die, text string) string {
	words := []string{"read", "write", "limit", "mix", "then", "(", ")", ",", " ", "0", "7", "8", "-1", "-0", "01", "1000", "1001", "1000001", "x", "99999999999999999999", ""}
	for range d.n(3) {
		i := d.n(len(text) + 1)
		j := min(len(text), i+d.n(4))
		text = text[:i] + words[d.n(len(words))] + text[j:]
	}
	return text
}

// 19.2: what is read, and what is wrong, and where, is that of the promise's own words.
func TestParseIsPlain(t *testing.T) {
	d := die(3)
	kinds := map[api.Errno]int{}
	for range 60_000 {
		w := draw(&d, d.n(4))
		text := spoilt(&d, strings.Repeat("limit 3 ", d.n(2)*d.n(22))+w.text(&d))
		if len(text) > 2000 {
			continue
		}
		want, place := plainFault(text)
		kinds[want]++
		g, err := gen.Parse(text)
		if want == api.OK {
			if g == nil || err != nil {
				t.Fatalf("%q: %v, %v", text, g, err)
			}
			continue
		}
		if at, ok := err.(*api.At); g != nil || !ok || at.Err != want || at.Place != place {
			t.Fatalf("%q: %v, %#v, not %v at %d", text, g, err, want, place)
		}
	}
	for _, e := range []api.Errno{api.OK, api.ErrForm, api.ErrRange, api.ErrLimit} {
		if kinds[e] < 500 {
			t.Errorf("too few of a kind: %v", kinds)
		}
	}
}
