package net_test

import (
	"fmt"
	"math"
	"slices"
	"strings"
	"testing"

	"testimony/api"
	"testimony/net"
)

// mail is one of a text: 01a goes from 0 to 1, and says a.
func mail(text string) net.Mail[string] {
	return net.Mail[string]{From: int(text[0] - '0'), To: int(text[1] - '0'), What: text[2:]}
}

// sent is a net on which the mails of a text are, in order.
func sent(t *testing.T, text string) *net.Net[string] {
	t.Helper()
	n := new(net.Net[string])
	for _, word := range strings.Fields(text) {
		if err := n.Send(mail(word)); err != nil {
			t.Fatalf("%s: %v", word, err)
		}
	}
	return n
}

// onWay is the mails of a net as a text.
func onWay[M any](n *net.Net[M]) string {
	var words []string
	for i := range n.Waiting() {
		m, ok := n.At(i)
		if !ok {
			return fmt.Sprint("no mail ", i)
		}
		words = append(words, fmt.Sprint(m.From, m.To, m.What))
	}
	return strings.ReplaceAll(strings.Join(words, ","), " ", "")
}

func checkWay[M any](t *testing.T, n *net.Net[M], want string) {
	t.Helper()
	if got := onWay(n); got != want {
		t.Errorf("on their way: %s, not %s", got, want)
	}
}

// 16.2: the zero value has no mails.
func TestEmpty(t *testing.T) {
	var n net.Net[string]
	checkWay(t, &n, "")
	for _, i := range []int{0, -1, 1, math.MinInt, math.MaxInt} {
		if m, ok := n.At(i); ok || m != (net.Mail[string]{}) {
			t.Errorf("at %d: %v, %v", i, m, ok)
		}
		if m, err := n.Take(i); err != error(api.ErrNone) || m != (net.Mail[string]{}) {
			t.Errorf("take %d: %v, %v", i, m, err)
		}
		if a, b := n.Drop(i), n.Double(i); a != error(api.ErrNone) || b != error(api.ErrNone) {
			t.Errorf("drop, double %d: %v, %v", i, a, b)
		}
	}
}

// 16.2: what is sent is behind all; what is taken, or dropped, leaves the others in order; a copy is behind all.
func TestOrder(t *testing.T) {
	n := sent(t, "01a 12b 20c 01d")
	checkWay(t, n, "01a,12b,20c,01d")
	if m, err := n.Take(1); err != nil || m != mail("12b") {
		t.Error(m, err)
	}
	checkWay(t, n, "01a,20c,01d")
	if err := n.Double(0); err != nil {
		t.Error(err)
	}
	checkWay(t, n, "01a,20c,01d,01a")
	if err := n.Drop(0); err != nil {
		t.Error(err)
	}
	checkWay(t, n, "20c,01d,01a")
	if err := n.Double(2); err != nil {
		t.Error(err)
	}
	checkWay(t, n, "20c,01d,01a,01a")
	if m, err := n.Take(3); err != nil || m != mail("01a") {
		t.Error(m, err)
	}
	if err := n.Send(mail("77z")); err != nil {
		t.Error(err)
	}
	checkWay(t, n, "20c,01d,01a,77z")
	if err := n.Drop(3); err != nil {
		t.Error(err)
	}
	checkWay(t, n, "20c,01d,01a")
	for _, i := range []int{3, -1, math.MaxInt} {
		_, ok := n.At(i)
		_, err := n.Take(i)
		if ok || err != error(api.ErrNone) || n.Drop(i) != error(api.ErrNone) || n.Double(i) != error(api.ErrNone) {
			t.Errorf("there is a mail %d", i)
		}
	}
	checkWay(t, n, "20c,01d,01a")
}

// 16.2: 500 may be on their way.
func TestSendLimit(t *testing.T) {
	var n net.Net[int]
	for i := range 500 {
		if err := n.Send(net.Mail[int]{What: i}); err != nil {
			t.Fatalf("mail %d: %v", i, err)
		}
	}
	if err := n.Send(net.Mail[int]{What: 500}); err != error(api.ErrLimit) || n.Waiting() != 500 {
		t.Error(err, n.Waiting())
	}
	if err := n.Double(7); err != error(api.ErrLimit) || n.Waiting() != 500 {
		t.Error(err, n.Waiting())
	}
	// That it isn't there is told first.
	if err := n.Double(500); err != error(api.ErrNone) {
		t.Error(err)
	}
	if m, err := n.Take(499); err != nil || m.What != 499 {
		t.Error(m, err)
	}
	if err := n.Double(7); err != nil {
		t.Error(err)
	}
	if m, ok := n.At(499); !ok || m.What != 7 {
		t.Error(m, ok)
	}
	if err := n.Send(net.Mail[int]{}); err != error(api.ErrLimit) {
		t.Error(err)
	}
}

// talks is whom a net lets talk, of a few numbers, as pairs.
func talks(t *testing.T, l net.Links) string {
	t.Helper()
	var pairs []string
	for from := -1; from < 4; from++ {
		for to := -1; to < 4; to++ {
			var n net.Net[int]
			n.Cut(l)
			m := net.Mail[int]{From: from, To: to, What: 5}
			if err := n.Send(m); err != nil {
				t.Fatalf("%v: %v", m, err)
			}
			got, err := n.Take(0)
			switch {
			case err == nil && got == m && n.Waiting() == 0:
				pairs = append(pairs, fmt.Sprint(from, to))
			case err != error(api.ErrState) || got != (net.Mail[int]{}) || n.Waiting() != 1:
				t.Errorf("%v: %v, %v, %d", m, got, err, n.Waiting())
			}
		}
	}
	return strings.Join(pairs, ",")
}

// 16.2: who can talk: by the row of the one, and the column of the other; who stands in none can't, if any links are there.
func TestCut(t *testing.T) {
	for _, c := range []struct{ links, want string }{
		{"", ""},
		{"1", "0 0"},
		{"0", ""},
		{"11 11", "0 0,0 1,1 0,1 1"},
		{"01 00", "0 1"},
		{"00 10", "1 0"},
		{"100 011 011", "0 0,1 1,1 2,2 1,2 2"},
		{"1 11 0001", "0 0,1 0,1 1,2 3"},
	} {
		if got := talks(t, linked(c.links)); got != c.want {
			t.Errorf("%q: %s, not %s", c.links, got, c.want)
		}
	}
	if got := talks(t, nil); strings.Count(got, ",") != 24 {
		t.Errorf("all can talk: %s", got)
	}
}

// 16.2: it can be told anew at any time; mails that are on their way stay, and can be dropped and doubled though the two can't talk.
func TestCutAnew(t *testing.T) {
	n := sent(t, "01a 10b 11c")
	n.Cut(linked("10 01"))
	for range 3 {
		if m, err := n.Take(0); err != error(api.ErrState) || m != (net.Mail[string]{}) {
			t.Error(m, err)
		}
	}
	if m, err := n.Take(2); err != nil || m != mail("11c") {
		t.Error(m, err)
	}
	if err := n.Double(1); err != nil {
		t.Error(err)
	}
	if err := n.Drop(0); err != nil {
		t.Error(err)
	}
	if err := n.Send(mail("01d")); err != nil {
		t.Error(err)
	}
	checkWay(t, n, "10b,10b,01d")
	n.Cut(linked("01 00"))
	if _, err := n.Take(0); err != error(api.ErrState) {
		t.Error(err)
	}
	if m, err := n.Take(2); err != nil || m != mail("01d") {
		t.Error(m, err)
	}
	n.Cut(nil)
	if m, err := n.Take(0); err != nil || m != mail("10b") {
		t.Error(m, err)
	}
	checkWay(t, n, "10b")
	// Not there is told ahead of not now.
	n.Cut(net.Links{})
	if _, err := n.Take(1); err != error(api.ErrNone) {
		t.Error(err)
	}
	if _, err := n.Take(0); err != error(api.ErrState) {
		t.Error(err)
	}
}

// P4: links that were handed in are neither kept nor written into.
func TestCutKeepsNothing(t *testing.T) {
	n := sent(t, "01a 10b")
	l := linked("11 11")
	n.Cut(l)
	l[0][1] = false
	l[1] = nil
	if _, err := n.Take(0); err != nil {
		t.Error(err)
	}
	if _, err := n.Take(0); err != nil {
		t.Error(err)
	}
	l = linked("10 01")
	n.Cut(l)
	if rows(l) != "10 01" {
		t.Error(l)
	}
}

// 16.2: two nets have nothing to do with each other, and what a mail says may be of any type.
func TestAnyMails(t *testing.T) {
	type word struct {
		text  string
		times int
	}
	var a, b net.Net[word]
	var c net.Net[[]int]
	a.Cut(net.Links{})
	for i, n := range []*net.Net[word]{&a, &b} {
		if err := n.Send(net.Mail[word]{From: 3, To: 4, What: word{"x", i}}); err != nil {
			t.Error(err)
		}
	}
	if _, err := a.Take(0); err != error(api.ErrState) {
		t.Error(err)
	}
	if m, err := b.Take(0); err != nil || m.What != (word{"x", 1}) {
		t.Error(m, err)
	}
	if err := c.Send(net.Mail[[]int]{What: []int{1, 2}}); err != nil {
		t.Error(err)
	}
	if m, err := c.Take(0); err != nil || !slices.Equal(m.What, []int{1, 2}) {
		t.Error(m, err)
	}
}

// P1: nothing is on its way on no net.
func TestNoNet(t *testing.T) {
	var n *net.Net[int]
	n.Cut(net.Links{})
	if n.Waiting() != 0 || n.Send(net.Mail[int]{}) == nil || n.Drop(0) != error(api.ErrNone) || n.Double(0) != error(api.ErrNone) {
		t.Error("no net has something")
	}
	if _, ok := n.At(0); ok {
		t.Error("no net has a mail")
	}
	if _, err := n.Take(0); err != error(api.ErrNone) {
		t.Error(err)
	}
}
