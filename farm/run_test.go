package farm_test

import (
	"fmt"
	"math"
	"reflect"
	"slices"
	"strings"
	"testing"

	"testimony/api"
	"testimony/event"
	"testimony/farm"
	"testimony/linear"
	"testimony/store"
)

// seen is what was seen as a text: r0x1, w0x1=5 begin; + is ahead of what took place, ? of what is not known.
func seen(l []event.Event) string {
	var words []string
	for _, e := range l {
		text := map[int]string{event.Invoke: "", event.Ok: "+", event.Info: "?"}[e.Type]
		text += fmt.Sprintf("%s%dx%d", map[int]string{api.Read: "r", api.Write: "w"}[e.Kind], e.Proc, e.Key)
		switch {
		case e.Kind == api.Write:
			text += fmt.Sprint("=", e.A)
		case e.Type == event.Ok:
			text += fmt.Sprint("=", e.Result)
		}
		words = append(words, text)
	}
	return strings.Join(words, " ")
}

// example is a plan, a tape, what is seen then, and the verdict.
type example struct {
	setup store.Setup
	gen   string
	tape  []int
	seen  string
	want  linear.Verdict
}

func checkAll(t *testing.T, examples []example) {
	t.Helper()
	for _, e := range examples {
		r, err := farm.Run(farm.Plan{Setup: e.setup, Title: "a title", Gen: e.gen, Budget: 1000}, e.tape)
		if err != nil || r.Title != "a title" || seen(r.Events) != e.seen || r.Code != e.want.Code || r.Entered != e.want.Entered || !slices.Equal(r.Order, e.want.Order) {
			t.Errorf("%v %s by %v:\n%s, %v, %v, not\n%s, %v", e.setup, e.gen, e.tape, seen(r.Events), r.Verdict, err, e.seen, e.want)
		}
	}
}

func valid(entered int, order ...int) linear.Verdict {
	return linear.Verdict{Code: linear.Valid, Order: order, Entered: entered}
}

var (
	one   = store.Setup{Nodes: 1, Clients: 1, Ask: 1, Tell: 1}
	pair  = store.Setup{Nodes: 1, Clients: 2, Ask: 1, Tell: 1}
	apart = store.Setup{Nodes: 2, Clients: 1, Ask: 1, Tell: 1}
)

// 20.2: without a tape clients begin, in order, when all messages have come, until none does.
func TestRunWithoutTape(t *testing.T) {
	checkAll(t, []example{
		{one, "limit 0 read 0", nil, "", valid(0)},
		{one, "limit 2 read 3", nil, "r0x3 +r0x3=0 r0x3 +r0x3=0", valid(2, 0, 1)},
		{one, "then (limit 1 write 2 5 9, limit 1 read 2)", nil, "w0x2=5 +w0x2=5 r0x2 +r0x2=5", valid(2, 0, 1)},
		{pair, "limit 3 read 0", nil, "r0x0 r1x0 +r0x0=0 +r1x0=0 r0x0 +r0x0=0", valid(3, 0, 1, 2)},
		{pair, "then (limit 1 write 0 7 7, limit 1 read 0)", nil, "w0x0=7 r1x0 +r1x0=0 +w0x0=7", valid(3, 1, 0)},
	})
}

// 20.2: each number of the tape does what the chapter tells.
func TestRunByHand(t *testing.T) {
	checkAll(t, []example{
		// 0, 1 and 2 let a client begin, told by the number behind; then the generator goes on with the tape.
		{pair, "limit 1 read 4", []int{0, 1}, "r1x4 +r1x4=0", valid(1, 0)},
		{pair, "limit 1 read 4", []int{2, 2}, "r0x4 +r0x4=0", valid(1, 0)},
		{pair, "limit 1 read 4", []int{11, 3}, "r1x4 +r1x4=0", valid(1, 0)},
		{pair, "limit 1 write 4 10 19", []int{1, 1, 7}, "w1x4=17 +w1x4=17", valid(1, 0)},
		{pair, "limit 1 mix (read 1, write 4 10 19)", []int{1, 1, 3, 25}, "w1x4=15 +w1x4=15", valid(1, 0)},
		// One that is at something does not begin; the generator is not asked then.
		{pair, "limit 2 write 0 1 9", []int{0, 1, 3, 0, 1, 0, 0, 5}, "w1x0=4 w0x0=6 +w1x0=4 +w0x0=6", valid(2, 0, 1)},
		// 3 to 6 deliver the message that is told: here client 1's asking, and its answer, first.
		{pair, "limit 2 read 0", []int{0, 0, 0, 1, 3, 1, 6, 1}, "r0x0 r1x0 +r1x0=0 +r0x0=0", valid(2, 0, 1)},
		{pair, "limit 2 read 0", []int{0, 0, 0, 1, 4, 3, 5, 3}, "r0x0 r1x0 +r1x0=0 +r0x0=0", valid(2, 0, 1)},
		// 7 loses one: its client never ends, and begins no more.
		{one, "limit 5 read 0", []int{0, 0, 7, 0}, "r0x0", valid(0)},
		{pair, "limit 3 read 0", []int{0, 0, 0, 1, 7, 1}, "r0x0 r1x0 +r0x0=0 r0x0 +r0x0=0", valid(3, 0, 1, 2)},
		// 8 doubles one, so that the other may be lost.
		{one, "limit 1 read 0", []int{0, 0, 8, 0, 7, 0}, "r0x0 +r0x0=0", valid(1, 0)},
		{pair, "limit 2 read 0", []int{0, 0, 0, 1, 8, 0, 7, 0}, "r0x0 r1x0 +r1x0=0 +r0x0=0", valid(2, 0, 1)},
		// 9 and 5: a client gives up.
		{pair, "limit 3 read 0", []int{0, 0, 9, 5, 0}, "r0x0 ?r0x0 r1x0 +r1x0=0 r1x0 +r1x0=0", valid(3, 0, 1, 2)},
		{pair, "limit 3 read 0", []int{0, 1, 9, 11, 3}, "r1x0 ?r1x0 r0x0 +r0x0=0 r0x0 +r0x0=0", valid(3, 0, 1, 2)},
		{one, "read 0", []int{0, 0, 9, 5, 0}, "r0x0 ?r0x0", valid(0)},
		// Who is at nothing can't; nor is there a message to deliver, to lose or to double: no number tells which.
		{one, "limit 1 read 0", []int{9, 5, 0}, "r0x0 +r0x0=0", valid(1, 0)},
		{pair, "limit 1 read 0", []int{3, 7, 8, 6, 0, 1}, "r1x0 +r1x0=0", valid(1, 0)},
		// Behind the end of the tape all numbers are 0.
		{pair, "limit 1 write 0 3 9", []int{0}, "w0x0=3 +w0x0=3", valid(1, 0)},
		{pair, "limit 1 write 0 3 9", []int{0, 1}, "w1x0=3 +w1x0=3", valid(1, 0)},
		{pair, "limit 1 read 0", []int{0, 1, 9}, "r1x0 +r1x0=0", valid(1, 0)},
		// Numbers below 0 are of 64 bits without a sign: -1 is 5 modulo 10, -4 is 2, and -1 is 1 modulo 2.
		{pair, "limit 1 read 0", []int{-1, -4, -1}, "r1x0 +r1x0=0", valid(1, 0)},
	})
}

// 20.2: quorums that don't meet, by what is lost, or by who can't talk.
func TestRunInvalid(t *testing.T) {
	stale := "w0x0=5 +w0x0=5 r0x0 +r0x0=0"
	bad := linear.Verdict{Code: linear.Invalid, Entered: 2}
	text := "then (limit 1 write 0 5 5, limit 1 read 0)"
	checkAll(t, []example{
		{apart, text, []int{
			0, 0, 0, // begins to write: both nodes are asked
			7, 1, 3, 0, 3, 0, // node 0 alone answers: both nodes are told
			7, 1, 3, 0, 3, 0, // node 0 alone hears it
			0, 0, // begins to read: both nodes are asked
			7, 0, 3, 0, 3, 0, // node 1 alone answers
		}, stale, bad},
		{apart, text, nil, "w0x0=5 +w0x0=5 r0x0 +r0x0=5", valid(2, 0, 1)},
	})
}

// 20.2: how the net is parted tells which messages come.
func TestRunCuts(t *testing.T) {
	three := store.Setup{Nodes: 3, Clients: 3, Ask: 1, Tell: 1}
	// Client 0 asks nodes 0, 1, 2, the links are cut, and the message to a node is delivered, if it can be; then so is the answer, which is last. Whoever is answered is done ahead of the others, which begin at the end.
	run := func(cut []int, node int) bool {
		tape := slices.Concat([]int{0, 0}, cut, []int{3, node, 3, 2, 0, 1})
		r, err := farm.Run(farm.Plan{Setup: three, Gen: "limit 2 read 0", Budget: 100}, tape)
		if err != nil {
			t.Fatal(err)
		}
		return strings.HasPrefix(seen(r.Events), "r0x0 +r0x0=0 r1x0")
	}
	for _, c := range []struct {
		name  string
		cut   []int
		nodes string
	}{
		{"whole", nil, "012"},
		{"all", []int{9, 1, 9, 0}, "012"},
		{"halves", []int{9, 1}, "0"},
		{"bridge", []int{9, 2}, "01"},
		{"ring", []int{9, 3}, "012"},
		{"alone 0", []int{9, 4, 0}, "0"},
		{"alone 1", []int{9, 4, 1}, "02"},
		{"alone 2", []int{9, 4, 5}, "01"},
		{"modulo", []int{19, 7}, "0"},
		{"the last one", []int{9, 1, 9, 4, 2}, "01"},
	} {
		nodes := ""
		for node := range 3 {
			if run(c.cut, node) {
				nodes += fmt.Sprint(node)
			}
		}
		if nodes != c.nodes {
			t.Errorf("%s: %s, not %s", c.name, nodes, c.nodes)
		}
	}
}

// 20.2: behind the tape all can talk.
func TestRunWholeAtTheEnd(t *testing.T) {
	for _, cut := range [][]int{{9, 1}, {9, 2}, {9, 3}, {9, 4, 0}, {9, 4, 1}} {
		r, err := farm.Run(farm.Plan{Setup: store.Setup{Nodes: 4, Clients: 1, Ask: 4, Tell: 4, Back: true}, Gen: "limit 1 read 0", Budget: 9}, slices.Concat(cut, []int{0, 0}))
		if err != nil || seen(r.Events) != "r0x0 +r0x0=0" {
			t.Errorf("%v: %s, %v", cut, seen(r.Events), err)
		}
	}
}

// 20.2: MaxOps begin, and no more.
func TestRunMaxOps(t *testing.T) {
	for clients := 1; clients <= api.MaxProcs; clients++ {
		setup := store.Setup{Nodes: 2, Clients: clients, Ask: 1, Tell: 1}
		for _, tape := range [][]int{nil, slices.Repeat([]int{0, 0, 3, 0, 3, 0, 3, 0, 3, 0, 3, 0}, 100)} {
			r, err := farm.Run(farm.Plan{Setup: setup, Gen: "read 0", Budget: 1000}, tape)
			ops, _ := event.Ops(r.Events)
			if err != nil || len(r.Events) != 2*api.MaxOps || len(ops) != api.MaxOps || r.Code != linear.Valid {
				t.Errorf("%d clients: %d events, %v, %v", clients, len(r.Events), r.Verdict, err)
			}
		}
	}
}

// 20.2: the budget is that of the search.
func TestRunBudget(t *testing.T) {
	for budget, want := range []int{linear.Unknown, linear.Unknown, linear.Valid, linear.Valid} {
		r, err := farm.Run(farm.Plan{Setup: one, Gen: "limit 2 read 0", Budget: budget}, nil)
		if err != nil || r.Code != want || r.Entered != min(budget, 2) {
			t.Errorf("budget %d: %v, %v", budget, r.Verdict, err)
		}
	}
}

// 20.2: what is wrong, and what of it is told first.
func TestRunErrors(t *testing.T) {
	long := make([]int, 2001)
	odd := store.Setup{Nodes: 2, Clients: 1, Ask: 3, Tell: 1}
	for _, c := range []struct {
		setup  store.Setup
		gen    string
		budget int
		tape   []int
		want   api.Errno
		place  int
	}{
		{one, "read 0", 5, long, api.ErrLimit, nowhere},
		{one, "read 0", -1, nil, api.ErrLimit, nowhere},
		{one, "read 0", api.MaxBudget + 1, nil, api.ErrLimit, nowhere},
		{one, "read 0", math.MinInt, nil, api.ErrLimit, nowhere},
		{one, "read 0", math.MaxInt, nil, api.ErrLimit, nowhere},
		{odd, "x", -1, nil, api.ErrLimit, nowhere},
		{odd, "x", 5, long, api.ErrLimit, nowhere},
		{odd, "x", 5, nil, api.ErrRange, nowhere},
		{store.Setup{}, "x", 5, nil, api.ErrLimit, nowhere},
		{store.Setup{Nodes: 8, Clients: 1, Ask: 1, Tell: 1}, "read 0", 5, nil, api.ErrLimit, nowhere},
		{one, "", 5, nil, api.ErrForm, 0},
		{one, "limit 2 read", 5, nil, api.ErrForm, 12},
		{one, "read 9", 5, []int{0}, api.ErrRange, 5},
		{one, strings.Repeat(" ", 2001), 5, nil, api.ErrLimit, nowhere},
		{one, strings.Repeat("limit 1 ", 20), 5, nil, api.ErrLimit, 160},
	} {
		r, err := farm.Run(farm.Plan{Setup: c.setup, Title: "x", Gen: c.gen, Budget: c.budget}, c.tape)
		if !isFault(err, c.want, c.place) || !reflect.DeepEqual(r, farm.Report{}) {
			t.Errorf("%v, %.50q, %d, %d numbers: %v, %#v, not %v at %d", c.setup, c.gen, c.budget, len(c.tape), r, err, c.want, c.place)
		}
	}
	for _, budget := range []int{0, 1, api.MaxBudget} {
		if _, err := farm.Run(farm.Plan{Setup: one, Gen: "limit 1 read 0", Budget: budget}, long[:2000]); err != nil {
			t.Errorf("budget %d: %v", budget, err)
		}
	}
}

// 20.2: a title may be any text; Page alone has bounds for it.
func TestRunTitle(t *testing.T) {
	for _, title := range []string{"", "<\n&>", strings.Repeat("x", 30_000)} {
		if r, err := farm.Run(farm.Plan{Setup: one, Title: title, Gen: "limit 1 read 0"}, nil); r.Title != title || err != nil {
			t.Errorf("%.20q: %v", title, err)
		}
	}
}

// P4: a tape is not written into, also behind its length; a report is the caller's.
func TestRunMemory(t *testing.T) {
	room := []int{0, 1, 3, 0, 7, 0, 0, 0, 1, 2, 9, 5, 1}
	was := slices.Clone(room)
	p := farm.Plan{Setup: pair, Gen: "limit 6 mix (read 0, write 0 1 5)", Budget: 100}
	first, err := farm.Run(p, room[:9])
	if err != nil || !slices.Equal(room, was) {
		t.Fatal(err, room)
	}
	want := fmt.Sprint(first)
	second, err := farm.Run(p, room[:9])
	if err != nil || fmt.Sprint(second) != want {
		t.Fatal(err, second, want)
	}
	for i := range second.Events {
		second.Events[i].Proc = 7
	}
	for i := range second.Order {
		second.Order[i] = 7
	}
	if fmt.Sprint(first) != want {
		t.Error("reports share memory")
	}
}
