package store_test

import (
	"fmt"
	"math"
	"strings"
	"testing"

	"testimony/api"
	"testimony/net"
	"testimony/store"
)

// example is a setup, what is done, which words are refused with which number, what is seen then, and how many messages are on their way.
type example struct {
	setup        store.Setup
	text, faults string
	seen         string
	waiting      int
}

func checkAll(t *testing.T, examples []example) {
	t.Helper()
	for _, e := range examples {
		s := newStore(t, e.setup)
		faults := moved(s, e.text)
		if got := seen(s); got != e.seen || faults != e.faults || s.Waiting() != e.waiting {
			t.Errorf("%v: %s:\n%s, refused %q, %d on their way, not\n%s, %q, %d", e.setup, e.text, got, faults, s.Waiting(), e.seen, e.faults, e.waiting)
		}
	}
}

var (
	one     = store.Setup{Nodes: 1, Clients: 1, Ask: 1, Tell: 1}
	oneBack = store.Setup{Nodes: 1, Clients: 1, Ask: 1, Tell: 1, Back: true}
	three   = store.Setup{Nodes: 3, Clients: 2, Ask: 2, Tell: 2}
	back    = store.Setup{Nodes: 3, Clients: 2, Ask: 2, Tell: 2, Back: true}
)

// 17.2, 17.3: one behind the other: a message to each node, its answer, and so on.
func TestSteps(t *testing.T) {
	checkAll(t, []example{
		{one, "", "", "", 0},
		{one, "w0x0=5", "", "w0x0=5", 1},
		{one, "w0x0=5 d0", "", "w0x0=5", 1},
		{one, "w0x0=5 d0 d0", "", "w0x0=5", 1},
		{one, "w0x0=5 d0 d0 d0", "", "w0x0=5", 1},
		{one, "w0x0=5 d0 d0 d0 d0", "", "w0x0=5 +w0x0=5@1.0", 0},
		{one, "w0x0=5 d0 d0 d0 d0 d0", "d0:8", "w0x0=5 +w0x0=5@1.0", 0},
		{one, "r0x3", "", "r0x3", 1},
		{one, "r0x3 d0", "", "r0x3", 1},
		{one, "r0x3 d0 d0", "", "r0x3 +r0x3=0@0.-1", 0},
		{oneBack, "r0x3 d0 d0", "", "r0x3", 1},
		{oneBack, "r0x3 d0 d0 d0", "", "r0x3", 1},
		{oneBack, "r0x3 d0 d0 d0 d0", "", "r0x3 +r0x3=0@0.-1", 0},
		{one, "w0x0=5 d0 d0 d0 d0 r0x0 d0 d0", "", "w0x0=5 +w0x0=5@1.0 r0x0 +r0x0=5@1.0", 0},
		{one, "w0x0=5 d0 d0 d0 d0 r0x1 d0 d0", "", "w0x0=5 +w0x0=5@1.0 r0x1 +r0x1=0@0.-1", 0},
		{one, "w0x7=-5 d0 d0 d0 d0 w0x7=0 d0 d0 d0 d0 w0x6=1 d0 d0 d0 d0 r0x7 d0 d0", "",
			"w0x7=-5 +w0x7=-5@1.0 w0x7=0 +w0x7=0@2.0 w0x6=1 +w0x6=1@1.0 r0x7 +r0x7=0@2.0", 0},
		{one, "w0x0=1000000 d0 d0 d0 d0 w0x0=-1000000 d0 d0 d0 d0", "", "w0x0=1000000 +w0x0=1000000@1.0 w0x0=-1000000 +w0x0=-1000000@2.0", 0},
		// Three asked, two of them counted; the third answer is late, and counts for nothing.
		{three, "w1x2=9 d0 d0 d0 d0 d0", "", "w1x2=9", 4},
		{three, "w1x2=9 d0 d0 d0 d0 d0 d0", "", "w1x2=9", 3},
		{three, "w1x2=9 d0 d0 d0 d0 d0 d0 d0 d0 d0 d0", "", "w1x2=9", 2},
		{three, "w1x2=9 d0 d0 d0 d0 d0 d0 d0 d0 d0 d0 d0", "", "w1x2=9 +w1x2=9@1.1", 1},
		{three, "w1x2=9 d0 d0 d0 d0 d0 d0 d0 d0 d0 d0 d0 r0x2 d0 d0 d0 d0 d0 d0", "", "w1x2=9 +w1x2=9@1.1 r0x2 +r0x2=9@1.1", 1},
		{back, "r0x2 d0 d0 d0 d0 d0", "", "r0x2", 4},
		{back, "r0x2 d0 d0 d0 d0 d0 d0 d0 d0 d0 d0 d0", "", "r0x2 +r0x2=0@0.-1", 1},
	})
}

// 17.3: which answers are counted: to the last round alone, each node once, and of who is at something.
func TestCounted(t *testing.T) {
	two := store.Setup{Nodes: 2, Clients: 1, Ask: 1, Tell: 2}
	ask2 := store.Setup{Nodes: 2, Clients: 1, Ask: 2, Tell: 1}
	checkAll(t, []example{
		// The answer of node 1 to the asking comes in the telling.
		{two, "w0x0=5 d0 d0 d0 d0 d0 d0 d0", "", "w0x0=5", 1},
		{two, "w0x0=5 d0 d0 d0 d0 d0 d0 d0 d0", "", "w0x0=5 +w0x0=5@1.0", 0},
		// It is asked twice, and answers twice.
		{ask2, "r0x0 t0 d0 d0 d0 d0 d1", "", "r0x0", 1},
		{ask2, "r0x0 t0 d0 d0 d0 d0 d1 d0", "", "r0x0 +r0x0=0@0.-1", 0},
		// Its answer comes twice.
		{ask2, "r0x0 d0 t1 d1 d1", "", "r0x0", 1},
		{ask2, "r0x0 d0 t1 d1 d1 d0 d0", "", "r0x0 +r0x0=0@0.-1", 0},
		// It is told twice.
		{store.Setup{Nodes: 2, Clients: 1, Ask: 1, Tell: 2}, "w0x0=5 x1 d0 d0 t0 x1 d0 d0 d0 d0", "", "w0x0=5", 0},
		// A late answer to what is done counts neither for that nor for what begins behind it, of the same key, too.
		{store.Setup{Nodes: 2, Clients: 1, Ask: 1, Tell: 1}, "r0x0 d0 d0 d0 r0x0 d0", "", "r0x0 +r0x0=0@0.-1 r0x0", 2},
		{store.Setup{Nodes: 2, Clients: 1, Ask: 1, Tell: 1}, "r0x0 d0 d0 d0 d0", "", "r0x0 +r0x0=0@0.-1", 0},
		// One who has given up counts nothing.
		{one, "r0x0 d0 g0 d0", "", "r0x0 ?r0x0", 0},
		{one, "w0x0=5 d0 g0 d0", "", "w0x0=5 ?w0x0=5", 0},
		{one, "w0x0=5 d0 d0 d0 g0 d0", "", "w0x0=5 ?w0x0=5", 0},
	})
}

// 17.3: what is kept of answers, and at nodes: the greatest stamp, by time, then by client.
func TestNewest(t *testing.T) {
	half := store.Setup{Nodes: 4, Clients: 1, Ask: 2, Tell: 2}
	low := "w0x0=5 x3 x2 d0 d0 d0 d0 x3 x2 d0 d0 d0 d0 "
	high := "w0x0=6 x0 x0 d0 d0 d0 d0 x0 x0 d0 d0 d0 d0 "
	wrote := "w0x0=5 +w0x0=5@1.0 w0x0=6 +w0x0=6@1.0 "
	apart := store.Setup{Nodes: 2, Clients: 2, Ask: 1, Tell: 1}
	both := "w0x0=5 w1x0=6 d0 d0 d0 d0 d0 d0 d0 d0 "
	checkAll(t, []example{
		// Quorums that don't meet: two writes with one stamp. Of answers that are as new the one that came first stays.
		{half, low + high + "r0x0 x3 x1 d0 d0 d0 d0", "", wrote + "r0x0 +r0x0=5@1.0", 0},
		{half, low + high + "r0x0 x3 x1 d0 d0 d1 d0", "", wrote + "r0x0 +r0x0=6@1.0", 0},
		// The newer one is kept, whichever comes first: node 0 has 7, node 2 has 6.
		{half, low + high + "w0x0=7 x3 x2 d0 d0 d0 d0 x3 x2 d0 d0 d0 d0 r0x0 x3 x1 d0 d0 d0 d0", "", wrote + "w0x0=7 +w0x0=7@2.0 r0x0 +r0x0=7@2.0", 0},
		{half, low + high + "w0x0=7 x3 x2 d0 d0 d0 d0 x3 x2 d0 d0 d0 d0 r0x0 x3 x1 d0 d0 d1 d0", "", wrote + "w0x0=7 +w0x0=7@2.0 r0x0 +r0x0=7@2.0", 0},
		// A node that has as new a one stays with it: told of 6 behind 5, of one stamp.
		{half, low + "w0x0=6 x0 x0 d0 d0 d0 d0 d0 d0 d0 d0 d0 d0 d0 d0 r0x0 x3 x2 d0 d0 d0 d0", "", wrote + "r0x0 +r0x0=5@1.0", 0},
		// Two who ask at one time tell with one time: the greater client's stays, whichever comes last.
		{apart, both, "", "w0x0=5 w1x0=6", 4},
		{apart, both + "d0 d0 d0 d0 d0 d0 d0 d0 r0x0 d0 d0 d0", "", "w0x0=5 w1x0=6 +w0x0=5@1.0 +w1x0=6@1.1 r0x0 +r0x0=6@1.1", 1},
		{apart, both + "d2 d2 d0 d0 d0 d0 d0 d0 r0x0 d0 d0 d0", "", "w0x0=5 w1x0=6 +w1x0=6@1.1 +w0x0=5@1.0 r0x0 +r0x0=6@1.1", 1},
		// One more than the greatest time, whoever wrote it.
		{three, "w1x0=5 d0 d0 d0 d0 d0 d0 d0 d0 d0 d0 d0 d0 w0x0=6 d0 d0 d0 d0 d0 d0 d0 d0 d0 d0 d0", "", "w1x0=5 +w1x0=5@1.1 w0x0=6 +w0x0=6@2.0", 1},
		// An asking that comes behind a telling changes nothing, and is answered with what the node has then.
		{one, "w0x0=5 t0 d0 d1 d1 d0 d1 d0 r0x0 d0 d0", "", "w0x0=5 +w0x0=5@1.0 r0x0 +r0x0=5@1.0", 0},
	})
}

// 17.3: who reads tells what it read, if Back: then others find it.
func TestBack(t *testing.T) {
	// Client 0's telling reaches node 2 alone; client 1 reads it there.
	text := "w0x0=5 d0 d0 d0 d0 d0 d0 x0 x0 d0 r1x0 x1 d1 d1 d1 d1 "
	checkAll(t, []example{
		{three, text, "", "w0x0=5 r1x0 +r1x0=5@1.0", 1},
		{back, text, "", "w0x0=5 r1x0", 4},
		// It tells nodes 0 and 1: 2 is left out. Then who asks these two finds it.
		{back, text + "x3 d1 d1 d1 d1", "", "w0x0=5 r1x0 +r1x0=5@1.0", 1},
		{back, text + "x3 d1 d1 d1 d1 r1x0 x3 d1 d1 d1 d1 d1 d1 d1 d1 d1", "", "w0x0=5 r1x0 +r1x0=5@1.0 r1x0 +r1x0=5@1.0", 2},
		{three, text + "r1x0 x3 d1 d1 d1 d1", "", "w0x0=5 r1x0 +r1x0=5@1.0 r1x0 +r1x0=0@0.-1", 1},
	})
}

// 17.2: who gives up is gone; what it told is told all the same.
func TestGiveUp(t *testing.T) {
	checkAll(t, []example{
		{one, "g0", "g0:6", "", 0},
		{one, "g1 g-1", "g1:2 g-1:2", "", 0},
		{one, "r0x2 g0", "", "r0x2 ?r0x2", 1},
		{one, "w0x2=4 g0", "", "w0x2=4 ?w0x2=4", 1},
		{one, "w0x2=4 g0 g0 r0x0 w0x0=1", "g0:6 r0x0:6 w0x0=1:6", "w0x2=4 ?w0x2=4", 1},
		{one, "w0x2=4 d0 d0 d0 d0 g0 r0x2", "g0:6", "w0x2=4 +w0x2=4@1.0 r0x2", 1},
		{store.Setup{Nodes: 1, Clients: 2, Ask: 1, Tell: 1}, "w0x2=4 d0 d0 g0 d0 d0 r1x2 d0 d0", "", "w0x2=4 ?w0x2=4 r1x2 +r1x2=4@1.0", 0},
		{store.Setup{Nodes: 1, Clients: 2, Ask: 1, Tell: 1}, "w0x2=4 d0 g0 d0 r1x2 d0 d0", "", "w0x2=4 ?w0x2=4 r1x2 +r1x2=0@0.-1", 0},
	})
}

// 17.2: what Begin says: of the key and the value first, then of the client.
func TestBeginFaults(t *testing.T) {
	big := api.MaxNumber + 1
	for _, c := range []struct {
		c, key int
		write  bool
		value  int
		want   error
	}{
		{0, 0, false, 0, nil}, {1, api.MaxKeys - 1, true, api.MaxNumber, nil}, {0, 3, true, -api.MaxNumber, nil}, {0, 3, true, 0, nil},
		{-1, 0, false, 0, api.ErrRange}, {3, 0, false, 0, api.ErrRange}, {math.MaxInt, 0, true, 1, api.ErrRange}, {math.MinInt, 0, true, 1, api.ErrRange},
		{0, -1, false, 0, api.ErrRange}, {0, api.MaxKeys, true, 1, api.ErrRange}, {0, math.MaxInt, true, 1, api.ErrRange},
		{0, 0, true, big, api.ErrRange}, {0, 0, true, -big, api.ErrRange}, {0, 0, true, math.MinInt, api.ErrRange},
		{0, 0, false, 1, api.ErrRange}, {0, 0, false, -1, api.ErrRange}, {0, 0, false, big, api.ErrRange},
		// Client 2 is at something.
		{2, 0, false, 0, api.ErrState}, {2, 7, true, 1, api.ErrState},
		{2, 8, false, 0, api.ErrRange}, {2, 0, false, 1, api.ErrRange}, {2, 0, true, big, api.ErrRange},
	} {
		s := newStore(t, store.Setup{Nodes: 2, Clients: 3, Ask: 1, Tell: 1})
		if err := s.Begin(2, 0, false, 0); err != nil {
			t.Fatal(err)
		}
		if err := s.Begin(c.c, c.key, c.write, c.value); err != c.want {
			t.Errorf("%v: %v", c, err)
		}
		// Nothing is changed with an error.
		events, waiting := 2, 4
		if c.want != nil {
			events, waiting = 1, 2
		}
		if len(s.Events()) != events || s.Waiting() != waiting {
			t.Errorf("%v: %s, %d on their way", c, seen(s), s.Waiting())
		}
	}
}

// 17.2: Free says the same of the client, and changes nothing.
func TestFree(t *testing.T) {
	s := newStore(t, store.Setup{Nodes: 2, Clients: 4, Ask: 1, Tell: 1})
	moved(s, "r0x0 w1x0=5 w2x1=1 g1 d4 d4")
	for range 2 {
		for c, want := range map[int]error{
			-1: api.ErrRange, 4: api.ErrRange, math.MinInt: api.ErrRange, math.MaxInt: api.ErrRange,
			0: api.ErrState, 1: api.ErrState, 2: api.ErrState, 3: nil,
		} {
			if err := s.Free(c); err != want {
				t.Errorf("client %d: %v, not %v", c, err, want)
			}
		}
	}
	if got := seen(s); got != "r0x0 w1x0=5 w2x1=1 ?w1x0=5" || s.Waiting() != 6 {
		t.Error(got, s.Waiting())
	}
}

// 17.2: each that begins must have its end among the events that there may be.
func TestEventLimit(t *testing.T) {
	s := newStore(t, store.Setup{Nodes: 1, Clients: 4, Ask: 1, Tell: 1})
	if faults := moved(s, strings.Repeat("r0x0 d0 d0 ", 57)+"r3x0 g3"); faults != "" || len(s.Events()) != 116 {
		t.Fatal(faults, len(s.Events()))
	}
	// 116, 2, and none at something; then 117, 2 and 1; then 118, 2 and 2.
	if faults := moved(s, "r1x0 w2x0=1 r0x0 r3x0 r1x0 r9x0"); faults != "r0x0:4 r3x0:6 r1x0:6 r9x0:2" {
		t.Error(faults)
	}
	if err := s.Free(0); err != error(api.ErrLimit) {
		t.Error(err)
	}
	// One of them is at its end: 119, 2, and 1.
	if faults := moved(s, "g1 r0x0"); faults != "r0x0:4" {
		t.Error(faults)
	}
	if faults := moved(s, "d0 d0 d0 d0 d0 d0 d0 d0 d0"); faults != "d0:8" || len(s.Events()) != api.MaxEvents {
		t.Error(faults, len(s.Events()))
	}
	if err := s.Free(2); err != error(api.ErrLimit) {
		t.Error(err)
	}
	s = newStore(t, one)
	if faults := moved(s, strings.Repeat("r0x0 d0 d0 ", 61)); faults != "r0x0:4 d0:8 d0:8" || len(s.Events()) != api.MaxEvents {
		t.Error(faults, len(s.Events()))
	}
}

// taken is the number of the first message that client 1 sent to a node; -1: there is none.
func taken(t *testing.T, s *store.Store, node int) int {
	t.Helper()
	rows := []string{"000", "000", "000"}
	rows[1] = strings.Repeat("0", node) + "1" + strings.Repeat("0", 2-node)
	if faults := moved(s, "|"+strings.Join(rows, "|")); faults != "" {
		t.Fatal(faults)
	}
	for i := range s.Waiting() {
		if s.Deliver(i) == nil {
			return i
		}
	}
	return -1
}

// 17.3: to ask, a message goes to each node, 0 first.
func TestNodeZeroFirst(t *testing.T) {
	for node := range 3 {
		s := newStore(t, three)
		moved(s, "r0x0 w1x0=5")
		if got := taken(t, s, node); got != 3+node {
			t.Errorf("message %d goes to node %d", got, node)
		}
		// To tell, likewise: the answers of nodes 0 and 1 are counted first.
		s = newStore(t, three)
		moved(s, "w1x0=5 d0 d0 d0 d0 d0")
		if got := taken(t, s, node); got != 1+node {
			t.Errorf("message %d tells node %d", got, node)
		}
	}
}

// 17.3: what the net can't take is lost, and the client is at something all the same.
func TestNetIsFull(t *testing.T) {
	for _, room := range []int{0, 1, 2, 3} {
		for node := range 3 {
			s := newStore(t, three)
			moved(s, "r0x0")
			for s.Waiting() < 500-room {
				if err := s.Double(0); err != nil {
					t.Fatal(err)
				}
			}
			if faults := moved(s, "w1x0=5 t0 t500"); faults != "t0:4 t500:8" || s.Waiting() != 500 {
				t.Errorf("room for %d: %s, %d on their way", room, faults, s.Waiting())
			}
			if s.Free(1) != error(api.ErrState) || seen(s) != "r0x0 w1x0=5" {
				t.Errorf("room for %d: %s", room, seen(s))
			}
			want := -1
			if node < room {
				want = 500 - room + node
			}
			// The answer has room where the message was.
			if got := taken(t, s, node); got != want || s.Waiting() != 500 {
				t.Errorf("room for %d: message %d goes to node %d, not %d; %d on their way", room, got, node, want, s.Waiting())
			}
		}
	}
}

// 17.4: Deliver, Drop and Double say what is not there.
func TestNoMessage(t *testing.T) {
	s := newStore(t, three)
	for _, i := range []int{-1, 0, 3, math.MinInt, math.MaxInt} {
		if i == 3 {
			moved(s, "r0x0")
		}
		if a, b, c := s.Deliver(i), s.Drop(i), s.Double(i); a != error(api.ErrNone) || b != a || c != a {
			t.Errorf("message %d: %v, %v, %v", i, a, b, c)
		}
	}
	if seen(s) != "r0x0" || s.Waiting() != 3 {
		t.Error(seen(s), s.Waiting())
	}
}

// 17.4: Cut wants a row a node.
func TestCutForm(t *testing.T) {
	s := newStore(t, three)
	for _, c := range []struct {
		links net.Links
		want  error
	}{
		{nil, nil}, {linked("111|111|111"), nil}, {net.Links{nil, nil, nil}, nil}, {linked("1|1111111|"), nil},
		{net.Links{}, api.ErrForm}, {linked("11|11"), api.ErrForm}, {linked("1111|1111|1111|1111"), api.ErrForm}, {linked("11111|11111|11111|11111|11111"), api.ErrForm},
	} {
		if err := s.Cut(c.links); err != c.want {
			t.Errorf("%v: %v, not %v", c.links, err, c.want)
		}
	}
	// With an error all is as it was.
	if faults := moved(s, "|000|000|000 |1 r0x0 d0 all |111 d0"); faults != "|1:3 d0:6 |111:3" {
		t.Error(faults)
	}
}

// reach is which nodes a client can ask under links, and by which of them it can be answered.
func reach(t *testing.T, setup store.Setup, l net.Links, c int) (asks, answers string) {
	t.Helper()
	can := func(before string, i int) bool {
		s := newStore(t, setup)
		if faults := moved(s, fmt.Sprintf("r%dx0 %s", c, before)); faults != "" || s.Cut(l) != nil {
			t.Fatalf("%v: %s", l, faults)
		}
		return s.Deliver(i) == nil
	}
	for node := range setup.Nodes {
		if can("", node) {
			asks += fmt.Sprint(node)
		}
		// What a node answers is behind all.
		if can(fmt.Sprint("d", node), setup.Nodes-1) {
			answers += fmt.Sprint(node)
		}
	}
	return asks, answers
}

// 17.4: a client counts as the node of its number, modulo all nodes; a message goes from the one's row to the other one's column.
func TestCutParts(t *testing.T) {
	setup := store.Setup{Nodes: 3, Clients: 8, Ask: 1, Tell: 1}
	for _, c := range []struct {
		links string
		c     int
		asks  string
		back  string
	}{
		{"100|011|011", 0, "0", "0"}, {"100|011|011", 1, "12", "12"}, {"100|011|011", 2, "12", "12"},
		{"100|011|011", 3, "0", "0"}, {"100|011|011", 4, "12", "12"}, {"100|011|011", 6, "0", "0"}, {"100|011|011", 7, "12", "12"},
		{"110|111|011", 0, "01", "01"}, {"110|111|011", 4, "012", "012"}, {"110|111|011", 5, "12", "12"},
		// One way alone.
		{"010|000|000", 0, "1", ""}, {"010|000|000", 1, "", "0"}, {"010|000|000", 3, "1", ""}, {"010|000|000", 2, "", ""},
		// A node that can't talk to itself can't to its client.
		{"011|101|110", 0, "12", "12"}, {"011|101|110", 4, "02", "02"},
		// Who stands in no column.
		{"1|1|1", 0, "0", "012"}, {"1|1|1", 1, "0", ""}, {"|1111|", 1, "012", "1"}, {"|1111|", 0, "", "1"},
	} {
		asks, answers := reach(t, setup, linked(c.links), c.c)
		if asks != c.asks || answers != c.back {
			t.Errorf("%s: client %d asks %s, is answered by %s, not %s, %s", c.links, c.c, asks, answers, c.asks, c.back)
		}
	}
	if asks, answers := reach(t, setup, nil, 5); asks != "012" || answers != "012" {
		t.Error(asks, answers)
	}
}

// 17.4: what can't be delivered stays; it can be dropped and doubled.
func TestCutStays(t *testing.T) {
	checkAll(t, []example{
		{three, "r0x0 halves3 d0 d0 d0 d2 d1", "d0:6 d0:6 d1:6", "r0x0", 2},
		{three, "r0x0 halves3 t1 x0 d0 d1 d2 all d0 d0 d0 d0 d0 d0", "d0:6 d1:6 d2:6", "r0x0 +r0x0=0@0.-1", 0},
		{three, "r0x0 d0 |000|000|000 d0 d1 d2 g0 r1x1 d3", "d0:6 d1:6 d2:6 d3:6", "r0x0 ?r0x0 r1x1", 6},
	})
}

// P4: links are not kept, and what is told is the caller's.
func TestMemory(t *testing.T) {
	s := newStore(t, three)
	l := linked("111|111|111")
	if err := s.Cut(l); err != nil {
		t.Fatal(err)
	}
	l[0][0], l[1] = false, nil
	if faults := moved(s, "w0x0=5 d0 d0 d0 d0 d0 d0 d0 d0 d0 d0 d0"); faults != "" {
		t.Error(faults)
	}
	want := seen(s)
	events, stamps := s.Events(), s.Stamps()
	for i := range events {
		events[i].Proc, stamps[i].Time = 7, 9
	}
	_, _ = append(events[:1], events[0]), append(stamps[:1], stamps[0])
	if seen(s) != want {
		t.Error(seen(s))
	}
	events, stamps = s.Events(), s.Stamps()
	if faults := moved(s, "r0x0 g0"); faults != "" || len(events) != 2 || events[1].Type != 2 || stamps[1] != (store.Stamp{Time: 1}) {
		t.Error(faults, events, stamps)
	}
}
