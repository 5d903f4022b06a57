package merge_test

import (
	"fmt"
	"math"
	"slices"
	"strconv"
	"strings"
	"testing"

	"testimony/api"
	"testimony/merge"
)

// made is what a text makes of things: 0+5 puts 5 in at place 0, -5 drops it.
func made(t *testing.T, from merge.Things, text string) merge.Things {
	t.Helper()
	for _, word := range strings.Fields(text) {
		place, thing, put := strings.Cut(word, "+")
		if !put {
			thing = word[1:]
		}
		p, _ := strconv.Atoi(place)
		n, _ := strconv.Atoi(thing)
		if !put {
			from = from.Drop(n)
			continue
		}
		var err error
		if from, err = from.Put(p, n); err != nil {
			t.Fatalf("%s, at %s: %v", text, word, err)
		}
	}
	return from
}

// checkList asks whether just these things are in it.
func checkList(t *testing.T, what string, s merge.Things, want ...int) {
	t.Helper()
	if got := s.List(); !slices.Equal(got, want) {
		t.Errorf("%s: %v, not %v", what, got, want)
	}
	for thing := -12; thing <= 12; thing++ {
		if got := s.Has(thing); got != slices.Contains(want, thing) {
			t.Errorf("%s: has %d: %v", what, thing, got)
		}
	}
}

// 15.2: the zero value is empty, and may be asked for all.
func TestEmpty(t *testing.T) {
	var s merge.Things
	for _, e := range []merge.Things{s, s.Drop(0), s.Drop(7), s.Join(s), merge.All(s, s, s), {}} {
		checkList(t, "nothing", e)
		if !e.Same(s) || !s.Same(e) {
			t.Errorf("%v is not the same as nothing", e)
		}
	}
	one := made(t, s, "0+0")
	if one.Same(s) || s.Same(one) {
		t.Errorf("%v is the same as nothing", one)
	}
	for _, e := range []merge.Things{one.Join(s), s.Join(one)} {
		checkList(t, "one and nothing", e, 0)
	}
}

// 15.2: Put, Drop, List and Has.
func TestPutAndDrop(t *testing.T) {
	for _, e := range []struct {
		text string
		want []int
	}{
		{"0+5", []int{5}},
		{"0+0", []int{0}},
		{"6+-3", []int{-3}},
		{"0+5 0+5 1+5", []int{5}},
		{"0+5 1+2 2+9 3+-1 0+2", []int{-1, 2, 5, 9}},
		{"0+9 0+8 0+7 0+-7 0+-8", []int{-8, -7, 7, 8, 9}},
		{"0+5 -5", nil},
		{"-5 0+5", []int{5}},
		{"0+5 1+5 0+6 -5", []int{6}},
		{"0+5 -5 0+5", []int{5}},
		{"0+5 -5 1+5", []int{5}},
		{"0+5 -5 -5", nil},
		{"0+5 -5 0+6 1+5 -6", []int{5}},
		{"0+5 -6 -4 -0", []int{5}},
		{"0+5 0+0 -0", []int{5}},
		{"0+1 1+2 2+3 3+4 4+5 5+6 6+7 -1 -7 -4", []int{2, 3, 5, 6}},
	} {
		checkList(t, e.text, made(t, merge.Things{}, e.text), e.want...)
	}
}

// 15.2: Put: the edges of what may be put in.
func TestPutEdges(t *testing.T) {
	for _, place := range []int{0, api.MaxNodes - 1} {
		for _, thing := range []int{-api.MaxNumber, api.MaxNumber} {
			s, err := merge.Things{}.Put(place, thing)
			if err != nil || !s.Has(thing) || s.Has(-thing) || !slices.Equal(s.List(), []int{thing}) || s.Drop(thing).Has(thing) {
				t.Errorf("%d at %d: %v, %v", thing, place, s.List(), err)
			}
		}
	}
}

// 15.2: Put: ErrRange, without a place, and t itself.
func TestPutRange(t *testing.T) {
	for _, text := range []string{"", "0+5", "0+5 1+6 -5"} {
		s := made(t, merge.Things{}, text)
		for _, e := range [][2]int{
			{-1, 1}, {api.MaxNodes, 1}, {math.MinInt, 1}, {math.MaxInt, 1},
			{0, api.MaxNumber + 1}, {0, -api.MaxNumber - 1}, {6, math.MaxInt}, {6, math.MinInt}, {-1, math.MaxInt},
		} {
			got, err := s.Put(e[0], e[1])
			if err != error(api.ErrRange) || !got.Same(s) || !s.Same(made(t, merge.Things{}, text)) || got.Has(e[1]) {
				t.Errorf("%s, %d at %d: %v, %v", text, e[1], e[0], got.List(), err)
			}
			if !made(t, got, "0+1 6+2").Same(made(t, merge.Things{}, text+" 0+1 6+2")) {
				t.Errorf("%s, %d at %d: not as ahead", text, e[1], e[0])
			}
		}
	}
}

// 15.2: Drop and Has may be asked for what can't be put in: it is not there.
func TestDropFar(t *testing.T) {
	s := made(t, merge.Things{}, "0+5 1+6 -6")
	for _, thing := range []int{math.MinInt, -api.MaxNumber - 1, 7, api.MaxNumber + 1, math.MaxInt} {
		if got := s.Drop(thing); !got.Same(s) || got.Has(thing) || s.Has(thing) {
			t.Errorf("%d: %v", thing, got.List())
		}
	}
}

// 15.2: Join: what the one or the other knows; what was put in beside a Drop stays, as its tag was not known there.
func TestThingsJoin(t *testing.T) {
	for _, e := range []struct {
		both, one, other string
		want             []int
	}{
		{"", "0+5", "1+6", []int{5, 6}},
		{"", "0+5", "1+5", []int{5}},
		{"", "0+5 -5", "1+5", []int{5}},
		{"", "0+5 -5", "1+5 -5", nil},
		{"", "0+5 -6", "1+6 -5", []int{5, 6}},
		{"0+5", "-5", "", nil},
		{"0+5", "-5", "1+6", []int{6}},
		{"0+5", "-5", "1+5", []int{5}},
		{"0+5", "-5 0+5", "", []int{5}},
		{"0+5", "-5 0+5", "-5", []int{5}},
		{"0+5 0+5 1+5", "-5", "0+6", []int{6}},
		{"0+5 1+6 2+7", "-5", "-6", []int{7}},
		{"0+5 -5", "0+6", "1+5", []int{5, 6}},
		{"0+5 0+6", "-5 0+7 -6", "1+6 -5 1+5", []int{5, 6, 7}},
	} {
		common := made(t, merge.Things{}, e.both)
		one, other := made(t, common, e.one), made(t, common, e.other)
		what := fmt.Sprintf("%s, then %s and %s", e.both, e.one, e.other)
		checkList(t, what, one.Join(other), e.want...)
		checkList(t, what+", the other way", other.Join(one), e.want...)
		if !one.Join(other).Same(other.Join(one)) || !one.Join(other).Join(one).Same(one.Join(other)) {
			t.Errorf("%s: not the same", what)
		}
	}
}

// 15.2: of a tag that both know with unlike things: other's; it is gone, if it is with one of them. So which numbers tags have can be seen.
func TestTags(t *testing.T) {
	for _, e := range []struct {
		one, other string
		want       []int
	}{
		{"0+5", "0+6", []int{6}},
		{"0+6", "0+5", []int{5}},
		{"0+5 0+6", "0+7", []int{6, 7}},
		{"0+7", "0+5 0+6", []int{5, 6}},
		{"0+5 1+6", "1+7", []int{5, 7}},
		{"1+6 0+5", "1+7", []int{5, 7}},
		{"6+5", "0+6", []int{5, 6}},
		{"0+5 -5", "0+6", nil},
		{"0+5", "0+6 -6", nil},
		{"0+5 -5 0+6", "0+7", []int{6}},
		{"0+5 -5 0+6", "0+7 0+8", []int{8}},
		{"0+7 0+8", "0+5 -5 0+6", []int{6}},
		{"0+5 0+6 -6 0+7", "0+1 0+2 0+3 0+4", []int{1, 3, 4}},
		{"0+5 1+9 1+9 1+9 0+6", "0+1 0+2 0+3", []int{1, 2, 3, 9}},
	} {
		one, other := made(t, merge.Things{}, e.one), made(t, merge.Things{}, e.other)
		checkList(t, e.one+" and "+e.other, one.Join(other), e.want...)
	}
}

// 15.2: a Drop finds the thing that a tag has now, and what is put in has a number that neither of two knew.
func TestTagsGoOn(t *testing.T) {
	one, other := made(t, merge.Things{}, "0+5"), made(t, merge.Things{}, "0+6 0+7 0+7 -7")
	both := one.Join(other)
	checkList(t, "other's", both, 6)
	checkList(t, "what was there ahead", both.Drop(5), 6)
	checkList(t, "what is there", both.Drop(6))
	more := made(t, both, "0+8")
	checkList(t, "the fourth", more.Join(made(t, merge.Things{}, "0+1 0+2 0+3 0+4")), 1, 4)
	checkList(t, "the fourth alone", made(t, merge.Things{}, "0+1 0+2 0+3 0+4 0+9").Join(more), 6, 8, 9)
}

// 15.2: Same: tags, their things, and which are gone; a like List is not enough.
func TestThingsSame(t *testing.T) {
	texts := []string{
		"", "0+5", "1+5", "0+6", "0+5 -5", "0+6 -6", "1+5 -5", "0+5 0+5", "0+5 1+5", "0+5 -5 0+5", "0+5 -5 1+5",
		"0+5 0+6", "0+6 0+5", "0+5 0+6 -6", "0+6 0+5 -6", "0+5 0+6 -5 -6", "0+5 0+5 -5",
	}
	for n, one := range texts {
		for m, other := range texts {
			if got := made(t, merge.Things{}, one).Same(made(t, merge.Things{}, other)); got != (n == m) {
				t.Errorf("%s and %s: %v", one, other, got)
			}
		}
	}
	for _, e := range [][2]string{{"0+5 1+6", "1+6 0+5"}, {"0+5 -5", "0+5 -5 -5"}, {"0+5", "-6 0+5 -7"}, {"0+5 1+6 -5", "0+5 -5 1+6"}, {"0+5 1+5 -5", "1+5 -5 0+5 -5"}} {
		if one, other := made(t, merge.Things{}, e[0]), made(t, merge.Things{}, e[1]); !one.Same(other) || !other.Same(one) {
			t.Errorf("%s and %s are not the same", e[0], e[1])
		}
	}
}

// What comes of things leaves them as they were, and a list is the caller's.
func TestThingsStay(t *testing.T) {
	text := "0+5 1+6 2+7 -6"
	s, u := made(t, merge.Things{}, text), made(t, merge.Things{}, "0+8 3+9 -9")
	joined := s.Join(u)
	for _, come := range []merge.Things{made(t, s, "0+1"), s.Drop(5), s.Join(u), u.Join(s), merge.All(s, u, u)} {
		made(t, come, "0+2 1+3 -7").Drop(5)
		if !s.Same(made(t, merge.Things{}, text)) || !u.Same(made(t, merge.Things{}, "0+8 3+9 -9")) || !joined.Same(s.Join(u)) {
			t.Errorf("%v, %v, %v", s, u, joined)
		}
	}
	one, other := made(t, s, "0+1"), made(t, s, "0+2")
	checkList(t, "one of two ways on", one, 1, 5, 7)
	checkList(t, "the other one", other, 2, 5, 7)
	list := s.List()
	_ = append(list, 99)
	for n := range list {
		list[n] = 77
	}
	checkList(t, text, s, 5, 7)
}
