package store_test

import (
	"fmt"
	"math"
	"strconv"
	"strings"
	"testing"

	"testimony/api"
	"testimony/event"
	"testimony/net"
	"testimony/store"
)

// newStore is a store of a setup that may be.
func newStore(t *testing.T, setup store.Setup) *store.Store {
	t.Helper()
	s, err := store.New(setup)
	if s == nil || err != nil {
		t.Fatalf("%v: %v, %v", setup, s, err)
	}
	return s
}

// move does what a word tells: r0x1: client 0 begins to read key 1; w0x1=5: to write 5; d0, x0, t0: message 0 is delivered, dropped, doubled; g0: client 0 gives up; all: all can talk; halves3, bridge3, ring3: those links; |10|01: links by their rows.
func move(s *store.Store, word string) error {
	makes := map[string]func(int) (net.Links, error){"halves": net.Halves, "bridge": net.Bridge, "ring": net.Ring}
	for name, links := range makes {
		if n, ok := strings.CutPrefix(word, name); ok {
			l, _ := links(number(n))
			return s.Cut(l)
		}
	}
	first, rest, _ := strings.Cut(word[1:], "x")
	key, value, _ := strings.Cut(rest, "=")
	switch word[0] {
	case 'r':
		return s.Begin(number(first), number(key), false, number(value))
	case 'w':
		return s.Begin(number(first), number(key), true, number(value))
	case 'd':
		return s.Deliver(number(first))
	case 'x':
		return s.Drop(number(first))
	case 't':
		return s.Double(number(first))
	case 'g':
		return s.GiveUp(number(first))
	case '|':
		return s.Cut(linked(word[1:]))
	}
	return s.Cut(nil)
}

func number(text string) int {
	n, _ := strconv.Atoi(text)
	return n
}

// linked are links by their rows, | between two.
func linked(text string) net.Links {
	l := net.Links{}
	for _, word := range strings.Split(text, "|") {
		var row []bool
		for _, c := range word {
			row = append(row, c == '1')
		}
		l = append(l, row)
	}
	return l
}

// moved does what the words of a text tell; faults are those that were refused, with the error's number.
func moved(s *store.Store, text string) (faults string) {
	var words []string
	for _, word := range strings.Fields(text) {
		if err := move(s, word); err != nil {
			words = append(words, word+":"+strconv.Itoa(int(api.Tell(err))))
		}
	}
	return strings.Join(words, " ")
}

// seen is what was seen as a text: r0x1, w0x1=5 begin; + is ahead of what took place, which has the stamp behind it; ? ahead of what is not known.
func seen(s *store.Store) string {
	l, stamps := s.Events(), s.Stamps()
	if len(l) != len(stamps) {
		return fmt.Sprint(len(l), " events, ", len(stamps), " stamps")
	}
	var words []string
	for i, e := range l {
		words = append(words, eventText(e, stamps[i]))
	}
	return strings.Join(words, " ")
}

func eventText(e event.Event, stamp store.Stamp) string {
	text := map[int]string{event.Invoke: "", event.Ok: "+", event.Info: "?"}[e.Type]
	text += map[int]string{api.Read: "r", api.Write: "w"}[e.Kind] + fmt.Sprint(e.Proc) + "x" + fmt.Sprint(e.Key)
	if e.Kind == api.Write {
		text += fmt.Sprint("=", e.A)
	}
	if e.Kind == api.Read && e.Type == event.Ok {
		text += fmt.Sprint("=", e.Result)
	}
	if stamp != (store.Stamp{}) {
		text += fmt.Sprintf("@%d.%d", stamp.Time, stamp.Client)
	}
	// What should not be there is to be seen.
	if e.B != 0 || e.Kind == api.Write && e.Result != 0 || e.Kind == api.Read && e.A != 0 || e.Type != event.Ok && e.Result != 0 {
		text += fmt.Sprint(e)
	}
	return text
}

// 17.1: Check, and New, which says the same.
func TestCheck(t *testing.T) {
	for _, c := range []struct {
		setup store.Setup
		want  error
	}{
		{store.Setup{1, 1, 1, 1, false}, nil},
		{store.Setup{1, 1, 1, 1, true}, nil},
		{store.Setup{api.MaxNodes, api.MaxProcs, api.MaxNodes, api.MaxNodes, true}, nil},
		{store.Setup{7, 8, 1, 1, false}, nil},
		{store.Setup{3, 2, 3, 1, false}, nil},
		{store.Setup{}, api.ErrLimit},
		{store.Setup{0, 1, 1, 1, true}, api.ErrLimit},
		{store.Setup{-1, 1, 1, 1, true}, api.ErrLimit},
		{store.Setup{api.MaxNodes + 1, 1, 1, 1, true}, api.ErrLimit},
		{store.Setup{math.MaxInt, 1, 1, 1, true}, api.ErrLimit},
		{store.Setup{math.MinInt, 1, 1, 1, true}, api.ErrLimit},
		{store.Setup{3, 0, 2, 2, true}, api.ErrLimit},
		{store.Setup{3, -1, 2, 2, true}, api.ErrLimit},
		{store.Setup{3, api.MaxProcs + 1, 2, 2, true}, api.ErrLimit},
		{store.Setup{3, math.MaxInt, 2, 2, true}, api.ErrLimit},
		{store.Setup{3, 2, 0, 2, true}, api.ErrRange},
		{store.Setup{3, 2, -1, 2, true}, api.ErrRange},
		{store.Setup{3, 2, 4, 2, true}, api.ErrRange},
		{store.Setup{3, 2, 2, 0, true}, api.ErrRange},
		{store.Setup{3, 2, 2, -1, true}, api.ErrRange},
		{store.Setup{3, 2, 2, 4, true}, api.ErrRange},
		{store.Setup{3, 2, math.MinInt, math.MaxInt, true}, api.ErrRange},
		// How many there are is looked at first.
		{store.Setup{0, 1, 0, 0, true}, api.ErrLimit},
		{store.Setup{3, 9, 0, 0, true}, api.ErrLimit},
		{store.Setup{8, 1, 8, 9, true}, api.ErrLimit},
	} {
		if err := store.Check(c.setup); err != c.want {
			t.Errorf("%v: %v, not %v", c.setup, err, c.want)
		}
		s, err := store.New(c.setup)
		if err != c.want || (s == nil) != (c.want != nil) {
			t.Errorf("new %v: %v, %v, not %v", c.setup, s, err, c.want)
		}
	}
}

// 17.1: a stamp is less by its time, then by its client.
func TestLess(t *testing.T) {
	rising := []store.Stamp{{math.MinInt, 5}, {-1, 9}, {0, -1}, {0, 0}, {0, 7}, {1, -1}, {1, 0}, {1, 3}, {2, math.MinInt}, {2, 2}, {math.MaxInt, math.MinInt}, {math.MaxInt, math.MaxInt}}
	for i, a := range rising {
		for j, b := range rising {
			if a.Less(b) != (i < j) {
				t.Errorf("%v less than %v: %v", a, b, a.Less(b))
			}
		}
	}
}

// 17.1: at first each register is 0, and as old as can be, whichever node is asked.
func TestFirst(t *testing.T) {
	for node := range 3 {
		for key := range api.MaxKeys {
			s := newStore(t, store.Setup{Nodes: 3, Clients: 1, Ask: 1, Tell: 1})
			faults := moved(s, fmt.Sprintf("r0x%d d%d d2", key, node))
			if want := fmt.Sprintf("r0x%d +r0x%d=0@0.-1", key, key); seen(s) != want || faults != "" {
				t.Errorf("node %d: %s, %s, not %s", node, seen(s), faults, want)
			}
		}
	}
	s := newStore(t, store.Setup{Nodes: 2, Clients: 2, Ask: 1, Tell: 1})
	if len(s.Events()) != 0 || len(s.Stamps()) != 0 || s.Waiting() != 0 || s.Free(0) != nil || s.Free(1) != nil {
		t.Error("something was seen, is on its way, or is not free at first")
	}
}

// 17.1: a nil Store, whatever it is asked.
func TestNoStore(t *testing.T) {
	var s *store.Store
	if len(s.Events()) != 0 || len(s.Stamps()) != 0 || s.Waiting() != 0 {
		t.Error("no store has something")
	}
	for _, i := range []int{-1, 0, 1, math.MaxInt} {
		for _, err := range []error{s.Free(i), s.Begin(i, 0, false, 0), s.Begin(i, 0, true, 1), s.Begin(0, i, true, i), s.GiveUp(i)} {
			if err != error(api.ErrRange) {
				t.Errorf("client %d: %v", i, err)
			}
		}
		for _, err := range []error{s.Deliver(i), s.Drop(i), s.Double(i)} {
			if err != error(api.ErrNone) {
				t.Errorf("message %d: %v", i, err)
			}
		}
	}
	for _, l := range []net.Links{nil, {}, {{true}}} {
		if err := s.Cut(l); err != error(api.ErrForm) {
			t.Errorf("%v: %v", l, err)
		}
	}
}

// P1: one that New did not make has no client and no message.
func TestUnmadeStore(t *testing.T) {
	s := new(store.Store)
	if s.Free(0) != error(api.ErrRange) || s.Begin(0, 0, true, 1) != error(api.ErrRange) || s.GiveUp(0) != error(api.ErrRange) {
		t.Error("it has a client")
	}
	if s.Deliver(0) != error(api.ErrNone) || s.Drop(0) != error(api.ErrNone) || s.Double(0) != error(api.ErrNone) || s.Waiting() != 0 {
		t.Error("it has a message")
	}
	for _, l := range []net.Links{nil, {}, {{true}}} {
		_ = s.Cut(l)
	}
}
