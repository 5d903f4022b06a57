package farm_test

import (
	"strings"
	"testing"

	"testimony/api"
	"testimony/farm"
	"testimony/store"
)

// nowhere is the place of an error that has none.
const nowhere = -1

// isFault says whether err is of that number, and an At just if it has a place.
func isFault(err error, want api.Errno, place int) bool {
	if place == nowhere {
		return err == error(want)
	}
	at, ok := err.(*api.At)
	return ok && at != nil && *at == api.At{Err: want, Place: place}
}

func checkFault(t *testing.T, text string, want api.Errno, place int) {
	t.Helper()
	if p, err := farm.Parse(text); p != (farm.Plan{}) || !isFault(err, want, place) {
		t.Errorf("%.200q: %v, %#v, not %v at %d", text, p, err, want, place)
	}
}

func checkPlan(t *testing.T, text string, want farm.Plan) {
	t.Helper()
	if p, err := farm.Parse(text); p != want || err != nil {
		t.Errorf("%.200q: %v, %v, not %v", text, p, err, want)
	}
}

// base is a plan's text that tells no more than it must, and basePlan what it tells.
const base = "nodes 3\nclients 2\nquorum 2 1\ngen read 0\n"

func basePlan(change func(*farm.Plan)) farm.Plan {
	p := farm.Plan{Setup: store.Setup{Nodes: 3, Clients: 2, Ask: 2, Tell: 1, Back: true}, Gen: "read 0", Budget: 10_000}
	change(&p)
	return p
}

// 20.1: what lines tell, in any order, and what is so if none does.
func TestParse(t *testing.T) {
	same := func(*farm.Plan) {}
	checkPlan(t, base, basePlan(same))
	checkPlan(t, strings.TrimSuffix(base, "\n"), basePlan(same))
	checkPlan(t, "\n\n"+strings.ReplaceAll(base, "\n", "\n\n\n"), basePlan(same))
	checkPlan(t, "gen read 0\nquorum 2 1\nclients 2\nnodes 3", basePlan(same))
	for _, c := range []struct {
		line   string
		change func(*farm.Plan)
	}{
		{"back yes", same}, {"back no", func(p *farm.Plan) { p.Back = false }},
		{"budget 0", func(p *farm.Plan) { p.Budget = 0 }}, {"budget 1000000", func(p *farm.Plan) { p.Budget = 1_000_000 }}, {"budget 10000", same},
		{"title", same}, {"title ", same}, {"title a", func(p *farm.Plan) { p.Title = "a" }},
		{"title  a <b> & 'c'  ", func(p *farm.Plan) { p.Title = " a <b> & 'c'  " }},
		{"title \x00\xff\r", func(p *farm.Plan) { p.Title = "\x00\xff\r" }},
		{"title title x", func(p *farm.Plan) { p.Title = "title x" }},
		{"title " + strings.Repeat("x", 5000), func(p *farm.Plan) { p.Title = strings.Repeat("x", 5000) }},
	} {
		checkPlan(t, base+c.line, basePlan(c.change))
		checkPlan(t, c.line+"\n"+base, basePlan(c.change))
	}
	checkPlan(t, "title all\nback no\nbudget 7\nnodes 7\nclients 8\nquorum 7 1\ngen  limit 3 mix ( read 1,write 2 -3 4 ) ", farm.Plan{
		Setup: store.Setup{Nodes: 7, Clients: 8, Ask: 7, Tell: 1}, Title: "all", Gen: " limit 3 mix ( read 1,write 2 -3 4 ) ", Budget: 7,
	})
}

// 20.1: what is wrong with a line is told at its first byte.
func TestParseLines(t *testing.T) {
	for _, c := range []struct {
		line string
		want api.Errno
	}{
		{" ", api.ErrName}, {" title a", api.ErrName}, {"x", api.ErrName}, {"Title a", api.ErrName}, {"titles a", api.ErrName}, {"title\ta", api.ErrName}, {"ask 1", api.ErrName}, {"\r", api.ErrName}, {"nodes3", api.ErrName}, {"\xff 1", api.ErrName},
		{"back", api.ErrForm}, {"back ", api.ErrForm}, {"back Yes", api.ErrForm}, {"back yes ", api.ErrForm}, {"back  yes", api.ErrForm}, {"back no no", api.ErrForm}, {"back true", api.ErrForm}, {"back no\r", api.ErrForm},
		{"budget", api.ErrForm}, {"budget ", api.ErrForm}, {"budget  7", api.ErrForm}, {"budget 7 ", api.ErrForm}, {"budget 7 8", api.ErrForm}, {"budget x", api.ErrForm}, {"budget 07", api.ErrForm}, {"budget +7", api.ErrForm}, {"budget -0", api.ErrForm}, {"budget 7\t", api.ErrForm}, {"budget 7,", api.ErrForm},
		{"budget 9223372036854775808", api.ErrForm}, {"budget -9223372036854775809", api.ErrForm},
		{"budget -1", api.ErrRange}, {"budget 1000001", api.ErrRange}, {"budget 9223372036854775807", api.ErrRange}, {"budget -9223372036854775808", api.ErrRange},
	} {
		checkFault(t, c.line, c.want, 0)
		checkFault(t, base+c.line, c.want, len(base))
		checkFault(t, "\n\n"+c.line+"\n"+base, c.want, 2)
	}
}

// 20.1: lines that a plan must have, each in place of one that is right.
func TestParseNumbers(t *testing.T) {
	for _, name := range []string{"nodes", "clients"} {
		for _, c := range []struct {
			rest string
			want api.Errno
		}{
			{"", api.ErrForm}, {" ", api.ErrForm}, {" 2 2", api.ErrForm}, {" x", api.ErrForm}, {"  2", api.ErrForm}, {" 2 ", api.ErrForm}, {" 02", api.ErrForm}, {" 99999999999999999999", api.ErrForm},
			{" -1", api.ErrRange}, {" 1000001", api.ErrRange},
		} {
			checkFault(t, "title a\n"+name+c.rest+"\nnonsense", c.want, 8)
		}
	}
	for _, c := range []struct {
		rest string
		want api.Errno
	}{
		{"", api.ErrForm}, {" 2", api.ErrForm}, {" 2 2 2", api.ErrForm}, {" 2  2", api.ErrForm}, {"  2 2", api.ErrForm}, {" 2 2 ", api.ErrForm}, {" 2,2", api.ErrForm}, {" x 2", api.ErrForm}, {" 2 x", api.ErrForm}, {" 2\t2", api.ErrForm},
		{" -1 2", api.ErrRange}, {" 2 -1", api.ErrRange}, {" 1000001 2", api.ErrRange}, {" 2 1000001", api.ErrRange},
		// The first one's error is told ahead of the second one's.
		{" -1 x", api.ErrRange}, {" 1000001 x", api.ErrRange}, {" 1000001 02", api.ErrRange}, {" -1 99999999999999999999", api.ErrRange}, {" -1 -1", api.ErrRange},
		{" x -1", api.ErrForm}, {" 02 1000001", api.ErrForm}, {" 99999999999999999999 -1", api.ErrForm}, {" -0 -1", api.ErrForm},
		// Whether there are two, with a blank between, is told ahead of both.
		{" -1", api.ErrForm}, {" -1 ", api.ErrForm}, {"  -1", api.ErrForm}, {" -1 2 3", api.ErrForm}, {" -1 2 ", api.ErrForm}, {" -1  2", api.ErrForm}, {"  -1 2", api.ErrForm}, {" -1\t2", api.ErrForm},
	} {
		checkFault(t, "title a\nquorum"+c.rest+"\nnonsense", c.want, 8)
	}
}

// 20.1: of a generator's error the number alone is told, at the line.
func TestParseGen(t *testing.T) {
	for _, c := range []struct {
		gen  string
		want api.Errno
	}{
		{"", api.ErrForm}, {"read", api.ErrForm}, {"x", api.ErrForm}, {"mix (read 0", api.ErrForm}, {"read 8", api.ErrRange}, {"write 0 5 1", api.ErrRange}, {"limit 1001 read 0", api.ErrRange},
		{strings.Repeat("limit 2 ", 20) + "read 0", api.ErrLimit}, {"read 0" + strings.Repeat(" ", 1995), api.ErrLimit},
	} {
		checkFault(t, "nodes 3\ngen "+c.gen+"\n", c.want, 8)
	}
	checkFault(t, "nodes 3\ngen", api.ErrForm, 8)
	long := "read 0" + strings.Repeat(" ", 1994)
	checkPlan(t, strings.Replace(base, "read 0", long, 1), basePlan(func(p *farm.Plan) { p.Gen = long }))
}

// 20.1: a name that stands ahead; what is wrong with the line itself is told first.
func TestParseTwice(t *testing.T) {
	all := base + "title a\nback no\nbudget 7\n"
	for _, line := range []string{"nodes 3", "clients 2", "quorum 2 1", "gen read 0", "title a", "title", "back no", "back yes", "budget 7", "budget 8"} {
		checkFault(t, all+line, api.ErrTwice, len(all))
		checkFault(t, all+line+"\nnonsense", api.ErrTwice, len(all))
	}
	for _, line := range []string{"nodes x", "back x", "gen x", "budget 1 1"} {
		checkFault(t, all+line, api.ErrForm, len(all))
	}
	for _, line := range []string{"nodes -1", "gen read 9", "budget 1000001"} {
		checkFault(t, all+line, api.ErrRange, len(all))
	}
	checkFault(t, "x\nx", api.ErrName, 0)
}

// 20.1: what must be there, and what Check says of it, behind all lines.
func TestParseWhole(t *testing.T) {
	lines := strings.Split(strings.TrimSuffix(base, "\n"), "\n")
	for i := range lines {
		rest := append(append([]string{}, lines[:i]...), lines[i+1:]...)
		text := strings.Join(rest, "\n")
		checkFault(t, text, api.ErrMissing, len(text))
		checkFault(t, text+"\n\n", api.ErrMissing, len(text)+2)
		checkFault(t, text+"\nx", api.ErrName, len(text)+1)
	}
	checkFault(t, "", api.ErrMissing, 0)
	checkFault(t, "\n\n\n", api.ErrMissing, 3)
	checkFault(t, "title a", api.ErrMissing, 7)
	// Something that is missing is told ahead of what Check says.
	checkFault(t, "nodes 0\nclients 0\nquorum 9 9", api.ErrMissing, 28)
	for _, c := range []struct {
		text string
		want api.Errno
	}{
		{"nodes 0\nclients 2\nquorum 1 1\ngen read 0", api.ErrLimit}, {"nodes 8\nclients 2\nquorum 1 1\ngen read 0", api.ErrLimit},
		{"nodes 3\nclients 0\nquorum 1 1\ngen read 0", api.ErrLimit}, {"nodes 3\nclients 9\nquorum 1 1\ngen read 0", api.ErrLimit},
		{"nodes 3\nclients 2\nquorum 0 1\ngen read 0", api.ErrRange}, {"nodes 3\nclients 2\nquorum 1 4\ngen read 0", api.ErrRange},
		{"nodes 1000000\nclients 2\nquorum 1 1\ngen read 0", api.ErrLimit}, {"nodes 3\nclients 2\nquorum 1000000 1\ngen read 0", api.ErrRange},
	} {
		checkFault(t, c.text, c.want, nowhere)
	}
}

// 20.1: a text of more than MaxText bytes has no place.
func TestParseLength(t *testing.T) {
	room := api.MaxText - len(base)
	checkPlan(t, base+strings.Repeat("\n", room), basePlan(func(*farm.Plan) {}))
	checkFault(t, base+strings.Repeat("\n", room+1), api.ErrLimit, nowhere)
	checkFault(t, strings.Repeat("x", api.MaxText+1), api.ErrLimit, nowhere)
	checkFault(t, strings.Repeat("x", api.MaxText), api.ErrName, 0)
}
