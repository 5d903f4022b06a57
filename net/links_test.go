package net_test

import (
	"math"
	"strings"
	"testing"

	"testimony/api"
	"testimony/net"
)

// rows are links as a text: a word a row, 1 where two can talk.
func rows(l net.Links) string {
	var words []string
	for _, row := range l {
		word := ""
		for _, can := range row {
			word += map[bool]string{true: "1", false: "0"}[can]
		}
		words = append(words, word)
	}
	return strings.Join(words, " ")
}

// linked is rows read back.
func linked(text string) net.Links {
	l := net.Links{}
	for _, word := range strings.Fields(text) {
		var row []bool
		for _, c := range word {
			row = append(row, c == '1')
		}
		l = append(l, row)
	}
	return l
}

// rule is one that makes links of n alone.
type rule struct {
	name string
	make func(n int) (net.Links, error)
}

func rules() []rule {
	return []rule{
		{"whole", net.Whole}, {"halves", net.Halves}, {"bridge", net.Bridge}, {"ring", net.Ring},
		{"alone", func(n int) (net.Links, error) { return net.Alone(n, 0) }},
	}
}

// 16.1: the links of each rule, for as many as there may be.
func TestRules(t *testing.T) {
	want := map[string][]string{
		"whole": {"1", "11 11", "111 111 111", "1111 1111 1111 1111", "11111 11111 11111 11111 11111",
			"111111 111111 111111 111111 111111 111111", "1111111 1111111 1111111 1111111 1111111 1111111 1111111"},
		"halves": {"1", "10 01", "100 011 011", "1100 1100 0011 0011", "11000 11000 00111 00111 00111",
			"111000 111000 111000 000111 000111 000111", "1110000 1110000 1110000 0001111 0001111 0001111 0001111"},
		"bridge": {"1", "11 11", "110 111 011", "1110 1110 1111 0011", "11100 11100 11111 00111 00111",
			"111100 111100 111100 111111 000111 000111", "1111000 1111000 1111000 1111111 0001111 0001111 0001111"},
		"ring": {"1", "11 11", "111 111 111", "1101 1110 0111 1011", "11001 11100 01110 00111 10011",
			"111011 111101 111110 011111 101111 110111", "1110011 1111001 1111100 0111110 0011111 1001111 1100111"},
		"alone": {"1", "10 01", "100 011 011", "1000 0111 0111 0111", "10000 01111 01111 01111 01111",
			"100000 011111 011111 011111 011111 011111", "1000000 0111111 0111111 0111111 0111111 0111111 0111111"},
	}
	for _, r := range rules() {
		for i, text := range want[r.name] {
			if l, err := r.make(i + 1); err != nil || rows(l) != text {
				t.Errorf("%s of %d: %s, %v, not %s", r.name, i+1, rows(l), err, text)
			}
		}
	}
}

// 16.1: whoever it is, Alone parts that one, and no other.
func TestAlone(t *testing.T) {
	for n := 1; n <= api.MaxNodes; n++ {
		for who := range n {
			l, err := net.Alone(n, who)
			if err != nil || len(l) != n {
				t.Fatalf("alone %d of %d: %v, %v", who, n, l, err)
			}
			for a := range n {
				for b := range n {
					if want := a == b || (a != who && b != who); l[a][b] != want {
						t.Errorf("alone %d of %d: %d to %d: %v", who, n, a, b, l[a][b])
					}
				}
			}
		}
	}
}

// 16.1: too few, too many.
func TestRulesLimit(t *testing.T) {
	for _, r := range rules() {
		for _, n := range []int{math.MinInt, -1, 0, api.MaxNodes + 1, 1000, math.MaxInt} {
			if l, err := r.make(n); l != nil || err != error(api.ErrLimit) {
				t.Errorf("%s of %d: %v, %v", r.name, n, l, err)
			}
		}
	}
}

// 16.1: Alone: how many there are is looked at first.
func TestAloneFaults(t *testing.T) {
	for _, c := range []struct {
		n, who int
		want   api.Errno
	}{
		{0, 0, api.ErrLimit}, {0, -1, api.ErrLimit}, {-3, 9, api.ErrLimit}, {8, 8, api.ErrLimit}, {8, -1, api.ErrLimit},
		{1, 1, api.ErrRange}, {1, -1, api.ErrRange}, {7, 7, api.ErrRange}, {4, math.MinInt, api.ErrRange}, {4, math.MaxInt, api.ErrRange},
	} {
		if l, err := net.Alone(c.n, c.who); l != nil || err != error(c.want) {
			t.Errorf("alone %d of %d: %v, %v, not %v", c.who, c.n, l, err, c.want)
		}
	}
}

// 16.1: who talks to whom is the same both ways, and each talks to itself.
func TestRulesAreEven(t *testing.T) {
	for _, r := range rules() {
		for n := 1; n <= api.MaxNodes; n++ {
			l, _ := r.make(n)
			for a := range n {
				for b := range n {
					if l[a][b] != l[b][a] || !l[a][a] {
						t.Errorf("%s of %d: %s", r.name, n, rows(l))
					}
				}
			}
		}
	}
}

// 16.1: Most: more than half, by its row; the half itself is not enough.
func TestMost(t *testing.T) {
	for _, c := range []struct {
		links string
		who   int
		want  bool
	}{
		{"1", 0, true}, {"0", 0, false}, {"1", 1, false}, {"1", -1, false}, {"", 0, false},
		{"1", math.MinInt, false}, {"1", math.MaxInt, false},
		{"10 01", 0, false}, {"11 11", 1, true},
		{"110 111 011", 0, true}, {"100 011 011", 0, false}, {"100 011 011", 2, true},
		{"1100 1100 0011 0011", 1, false}, {"1110 1110 1111 0011", 0, true}, {"1110 1110 1111 0011", 3, false},
		{"11001 11100 01110 00111 10011", 4, true}, {"11000 11000 00111 00111 00111", 1, false},
		// By the row, not by the column.
		{"111 000 000", 0, true}, {"111 000 000", 1, false}, {"001 001 001", 2, false},
		// Half of all there are, though its row tells of fewer.
		{"1 11 111", 0, false}, {"1 11 111", 1, true}, {"1 11 111", 2, true},
	} {
		if got := linked(c.links).Most(c.who); got != c.want {
			t.Errorf("%q: %d: %v", c.links, c.who, got)
		}
	}
	var none net.Links
	if none.Most(0) || none.Most(-1) || (net.Links{nil}).Most(0) {
		t.Error("there is nobody, or one that talks to nobody")
	}
}

// P4: links are the caller's, and no row is another one's.
func TestRulesAreFresh(t *testing.T) {
	for _, r := range rules() {
		l, _ := r.make(5)
		want := rows(l)
		for a := range l {
			before := rows(l)
			l[a] = append(l[a], true)
			l[a] = l[a][:5]
			if rows(l) != before {
				t.Errorf("%s: row %d has another one behind it", r.name, a)
			}
			for b := range l[a] {
				l[a][b] = !l[a][b]
			}
		}
		if again, _ := r.make(5); rows(again) != want {
			t.Errorf("%s: %s, not %s", r.name, rows(again), want)
		}
	}
}
