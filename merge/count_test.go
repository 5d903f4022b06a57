package merge_test

import (
	"math"
	"slices"
	"testing"

	"testimony/api"
	"testimony/merge"
)

// What the chapter makes can be brought together.
var (
	_ merge.Joins[merge.Count]  = merge.Count{}
	_ merge.Joins[merge.Last]   = merge.Last{}
	_ merge.Joins[merge.Things] = merge.Things{}
)

// trail tells in which order it was joined.
type trail string

func (a trail) Join(b trail) trail { return "(" + a + b + ")" }

func (a trail) Same(b trail) bool { return a == b }

// 15.1: All: the first one, joined with the others one by one, each as other.
func TestAllInOrder(t *testing.T) {
	for _, e := range []struct {
		list []trail
		want trail
	}{
		{[]trail{"a"}, "a"},
		{[]trail{"a", "b"}, "(ab)"},
		{[]trail{"b", "a"}, "(ba)"},
		{[]trail{"a", "b", "c", "b"}, "(((ab)c)b)"},
	} {
		if got := merge.All(e.list[0], e.list[1:]...); got != e.want {
			t.Errorf("%v: %s, not %s", e.list, got, e.want)
		}
	}
	if got := merge.All[trail]("a", nil...); got != "a" {
		t.Errorf("nothing else: %s", got)
	}
}

// A list that is handed in stays as it is, also behind its length.
func TestAllWritesNothing(t *testing.T) {
	list := []trail{"a", "b", "c", "d"}
	if got := merge.All("x", list[1:3]...); got != "((xb)c)" || !slices.Equal(list, []trail{"a", "b", "c", "d"}) {
		t.Errorf("%s, %v", got, list)
	}
}

// count is a Count of some places.
func count(up, down map[int]int) merge.Count {
	var c merge.Count
	for place, n := range up {
		c.Up[place] = n
	}
	for place, n := range down {
		c.Down[place] = n
	}
	return c
}

// 15.1: Add: n more in Up, or -n more in Down, of the place alone.
func TestAdd(t *testing.T) {
	some := count(map[int]int{0: 5, 3: 1}, map[int]int{3: 2, 6: 4})
	for _, e := range []struct {
		from     merge.Count
		place, n int
		want     merge.Count
	}{
		{merge.Count{}, 0, 1, count(map[int]int{0: 1}, nil)},
		{merge.Count{}, 0, -1, count(nil, map[int]int{0: 1})},
		{merge.Count{}, 2, 0, merge.Count{}},
		{merge.Count{}, api.MaxNodes - 1, api.MaxNumber, count(map[int]int{6: 1_000_000}, nil)},
		{merge.Count{}, api.MaxNodes - 1, -api.MaxNumber, count(nil, map[int]int{6: 1_000_000})},
		{some, 3, 7, count(map[int]int{0: 5, 3: 8}, map[int]int{3: 2, 6: 4})},
		{some, 3, -7, count(map[int]int{0: 5, 3: 1}, map[int]int{3: 9, 6: 4})},
		{some, 6, 3, count(map[int]int{0: 5, 3: 1, 6: 3}, map[int]int{3: 2, 6: 4})},
		{some, 0, 0, some},
		{count(map[int]int{0: api.MaxNumber}, nil), 0, api.MaxNumber, count(map[int]int{0: 2_000_000}, nil)},
		{count(map[int]int{0: -5}, map[int]int{0: -3}), 0, 2, count(map[int]int{0: -3}, map[int]int{0: -3})},
		{count(map[int]int{0: -5}, map[int]int{0: -3}), 0, -2, count(map[int]int{0: -5}, map[int]int{0: -1})},
	} {
		ahead := e.from
		if got, err := e.from.Add(e.place, e.n); got != e.want || err != nil || e.from != ahead {
			t.Errorf("%v, %d at %d: %v, %v, not %v", e.from, e.n, e.place, got, err, e.want)
		}
	}
}

// 15.1: Add: ErrRange, without a place, and c itself.
func TestAddRange(t *testing.T) {
	for _, c := range []merge.Count{{}, count(map[int]int{0: 5, 6: 1}, map[int]int{0: 2, 3: 9})} {
		for _, e := range [][2]int{
			{-1, 1}, {api.MaxNodes, 1}, {math.MinInt, 1}, {math.MaxInt, 1}, {-1, 0}, {api.MaxNodes, -1},
			{0, api.MaxNumber + 1}, {0, -api.MaxNumber - 1}, {6, math.MaxInt}, {6, math.MinInt}, {-1, math.MinInt},
		} {
			if got, err := c.Add(e[0], e[1]); got != c || err != error(api.ErrRange) {
				t.Errorf("%v, %d at %d: %v, %v", c, e[1], e[0], got, err)
			}
		}
	}
}

// 15.1: Value: all Ups less all Downs.
func TestValue(t *testing.T) {
	for _, e := range []struct {
		c    merge.Count
		want int
	}{
		{merge.Count{}, 0},
		{count(map[int]int{0: 1}, nil), 1},
		{count(nil, map[int]int{6: 1}), -1},
		{count(map[int]int{0: 5, 3: 1, 6: 10}, map[int]int{0: 2, 6: 4}), 10},
		{merge.Count{Up: [api.MaxNodes]int{1, 2, 3, 4, 5, 6, 7}, Down: [api.MaxNodes]int{70, 60, 50, 40, 30, 20, 10}}, 28 - 280},
		{merge.Count{Up: [api.MaxNodes]int{-1, 2}, Down: [api.MaxNodes]int{-4}}, 5},
		{count(map[int]int{0: math.MaxInt, 1: 1}, map[int]int{2: math.MaxInt}), 1},
	} {
		if got := e.c.Value(); got != e.want {
			t.Errorf("%v: %d, not %d", e.c, got, e.want)
		}
	}
}

// 15.1: Join: the greater ones, of each place, up and down.
func TestCountJoin(t *testing.T) {
	a := merge.Count{Up: [api.MaxNodes]int{1, 5, 0, 7, 2, 2, 9}, Down: [api.MaxNodes]int{3, 0, 4, 1, 0, 8, 6}}
	b := merge.Count{Up: [api.MaxNodes]int{2, 4, 1, 7, 0, 3, 8}, Down: [api.MaxNodes]int{0, 2, 4, 0, 1, 7, 9}}
	want := merge.Count{Up: [api.MaxNodes]int{2, 5, 1, 7, 2, 3, 9}, Down: [api.MaxNodes]int{3, 2, 4, 1, 1, 8, 9}}
	if a.Join(b) != want || b.Join(a) != want || merge.All(a, b, a) != want {
		t.Errorf("%v, %v, %v, not %v", a.Join(b), b.Join(a), merge.All(a, b, a), want)
	}
	low := merge.Count{Up: [api.MaxNodes]int{-3, math.MinInt}, Down: [api.MaxNodes]int{-4}}
	want = merge.Count{}
	if got := low.Join(merge.Count{}); got != want {
		t.Errorf("%v", got)
	}
	if got := low.Join(low); got != low {
		t.Errorf("%v", got)
	}
}

// 15.1: Same: of each place alike, up and down; a like Value is not enough.
func TestCountSame(t *testing.T) {
	c := count(map[int]int{0: 5, 3: 1}, map[int]int{0: 2})
	if !c.Same(c) || !(merge.Count{}).Same(merge.Count{}) {
		t.Errorf("%v is not the same as itself", c)
	}
	for _, other := range []merge.Count{
		{}, count(map[int]int{0: 3, 3: 1}, nil), count(map[int]int{0: 1, 3: 5}, map[int]int{0: 2}),
		count(map[int]int{0: 5, 3: 1}, map[int]int{6: 2}), count(map[int]int{0: 5, 3: 1, 6: 1}, map[int]int{0: 2}),
	} {
		if c.Same(other) || other.Same(c) {
			t.Errorf("%v is the same as %v", c, other)
		}
	}
}

// far are numbers of which Last's may be.
var far = []int{math.MinInt, -1, 0, 1, math.MaxInt}

// lasts are all of a few numbers.
func lasts() []merge.Last {
	var l []merge.Last
	for _, time := range far {
		for _, place := range far {
			for _, value := range far {
				l = append(l, merge.Last{Time: time, Place: place, Value: value})
			}
		}
	}
	return l
}

// 15.1: Last: Join: the greater Time, then Place, then Value (lasts tells them in this order); Same.
func TestLast(t *testing.T) {
	l := lasts()
	for n, a := range l {
		for m, b := range l {
			if got := a.Join(b); got != l[max(n, m)] {
				t.Errorf("%v, %v: %v", a, b, got)
			}
			if got := a.Same(b); got != (n == m) {
				t.Errorf("%v, %v: %v", a, b, got)
			}
		}
	}
	a, b, c := merge.Last{Time: 3, Place: 1, Value: 9}, merge.Last{Time: 3, Place: 2, Value: 4}, merge.Last{Time: 2, Place: 6, Value: 99}
	if got := merge.All(c, b, a); got != b {
		t.Errorf("%v", got)
	}
	if got := (merge.Last{}).Join(merge.Last{Value: -1}); got != (merge.Last{}) {
		t.Errorf("%v", got)
	}
}
