package net_test

import (
	"slices"
	"testing"

	"testimony/api"
	"testimony/net"
)

// die: numbers that look drawn, the same each time.
type die uint64

func (d *die) n(most int) int {
	*d = *d*6364136223846793005 + 1442695040888963407
	return int(uint64(*d>>33) % uint64(most))
}

// told is 16.2 word by word: mails in a list, and the pairs that can't talk are found by looking at all that can.
type told struct {
	mails []net.Mail[int]
	cut   bool
	pairs [][2]int
}

func (w *told) doCut(l net.Links) {
	w.cut, w.pairs = l != nil, nil
	for a, row := range l {
		for b, can := range row {
			if can {
				w.pairs = append(w.pairs, [2]int{a, b})
			}
		}
	}
}

func (w *told) take(i int) (net.Mail[int], api.Errno) {
	if i < 0 || i >= len(w.mails) {
		return net.Mail[int]{}, api.ErrNone
	}
	m := w.mails[i]
	if w.cut && !slices.Contains(w.pairs, [2]int{m.From, m.To}) {
		return net.Mail[int]{}, api.ErrState
	}
	w.mails = slices.Concat(w.mails[:i], w.mails[i+1:])
	return m, api.OK
}

func (w *told) drop(i int) api.Errno {
	if i < 0 || i >= len(w.mails) {
		return api.ErrNone
	}
	w.mails = slices.Concat(w.mails[:i], w.mails[i+1:])
	return api.OK
}

func (w *told) double(i int) api.Errno {
	if i < 0 || i >= len(w.mails) {
		return api.ErrNone
	}
	return w.send(w.mails[i])
}

func (w *told) send(m net.Mail[int]) api.Errno {
	if len(w.mails) == 500 {
		return api.ErrLimit
	}
	w.mails = slices.Concat(w.mails, []net.Mail[int]{m})
	return api.OK
}

// drawLinks are links of one rule or another, or none, or ragged ones.
func drawLinks(d *die) net.Links {
	n := 1 + d.n(api.MaxNodes)
	switch d.n(4) {
	case 0:
		return nil
	case 1:
		l := make(net.Links, d.n(5))
		for a := range l {
			l[a] = make([]bool, d.n(5))
			for b := range l[a] {
				l[a][b] = d.n(2) == 0
			}
		}
		return l
	}
	l, _ := rules()[d.n(5)].make(n)
	return l
}

// move does one thing on both, and says whether both tell the same; code is what is told.
func move(d *die, n *net.Net[int], w *told, k, fills int) (code api.Errno, same bool) {
	var err error
	i := d.n(len(w.mails)+3) - 1
	switch what := d.n(10); {
	case what < 4:
		m := net.Mail[int]{From: d.n(6) - 1, To: d.n(6) - 1, What: k}
		// Some nets are filled up, so that their bound is met.
		for range fills {
			if api.Tell(n.Send(m)) != w.send(m) {
				return 0, false
			}
		}
		err, code = n.Send(m), w.send(m)
	case what < 6:
		var got, want net.Mail[int]
		got, err = n.Take(i)
		want, code = w.take(i)
		if got != want {
			return code, false
		}
	case what < 7:
		err, code = n.Drop(i), w.drop(i)
	case what < 9:
		err, code = n.Double(i), w.double(i)
	default:
		l := drawLinks(d)
		n.Cut(l)
		w.doCut(l)
	}
	return code, api.Tell(err) == code
}

// 16.2: what is told is that of the promise's own words.
func TestNetIsPlain(t *testing.T) {
	d := die(162)
	kinds := map[api.Errno]int{}
	for round := range 1500 {
		var n net.Net[int]
		var w told
		fills := 0
		if round%50 == 0 {
			fills = 120
		}
		for k := range d.n(60) {
			code, same := move(&d, &n, &w, k, fills)
			if !same {
				t.Fatalf("round %d, move %d: not %v", round, k, code)
			}
			kinds[code]++
			if n.Waiting() != len(w.mails) {
				t.Fatalf("round %d, move %d: %d on their way, not %d", round, k, n.Waiting(), len(w.mails))
			}
		}
		for i := -1; i <= len(w.mails); i++ {
			m, ok := n.At(i)
			if there := i >= 0 && i < len(w.mails); ok != there || there && m != w.mails[i] || !there && m != (net.Mail[int]{}) {
				t.Fatalf("round %d: at %d: %v, %v", round, i, m, ok)
			}
		}
	}
	if min(kinds[api.OK], kinds[api.ErrNone], kinds[api.ErrState], kinds[api.ErrLimit]) < 100 {
		t.Errorf("too few of a kind: %v", kinds)
	}
}

// 16.1: Most is a count of whom it talks to: of two halves one has most, unless they are alike; a bridge has it, and in a ring and beside one alone all, as soon as there are enough.
func TestMostOfRules(t *testing.T) {
	for n := 1; n <= api.MaxNodes; n++ {
		for _, r := range rules() {
			l, _ := r.make(n)
			for who := range n {
				count := 0
				for b := range n {
					if l[who][b] {
						count++
					}
				}
				if l.Most(who) != (count > n-count) {
					t.Errorf("%s of %d: %d talks to %d", r.name, n, who, count)
				}
			}
		}
		if l, _ := net.Bridge(n); !l.Most(n / 2) {
			t.Errorf("the bridge of %d has not most", n)
		}
		if l, _ := net.Ring(n); !l.Most(n - 1) {
			t.Errorf("who is on a ring of %d has not most", n)
		}
	}
}
