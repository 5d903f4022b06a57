package farm_test

import (
	"fmt"
	"math"
	"regexp"
	"slices"
	"strconv"
	"strings"
	"testing"

	"testimony/api"
	"testimony/event"
	"testimony/farm"
	"testimony/gen"
	"testimony/linear"
	"testimony/plain"
	"testimony/store"
)

// Moves of package plain.
const (
	deliver = iota + 2
	drop
	double
	giveUp
	allTalk
	_
	halves
	bridge
	ring
	alone
)

// player plays a plan word by word, by moves of package plain.
type player struct {
	plan  farm.Plan
	tape  *gen.Tape
	g     gen.Gen
	s     *store.Store
	spent bool
}

func (p *player) play(what, a, b int) { _ = plain.Play(p.s, plain.Move{What: what, A: a, B: b}) }

// begins says whether a client began.
func (p *player) begins(c int) bool {
	begun := 0
	for _, e := range p.s.Events() {
		if e.Type == event.Invoke {
			begun++
		}
	}
	if p.spent || begun >= api.MaxOps || p.s.Free(c) != nil {
		return false
	}
	call, ok := p.g.Next(p.tape)
	if !ok {
		p.spent = true
		return false
	}
	what := 0
	if call.Write {
		what = 1
	}
	return plain.Play(p.s, plain.Move{What: what, A: c, B: call.Key, C: call.Value}) == nil
}

// byTape does what the next numbers tell.
func (p *player) byTape() {
	nodes, clients := p.plan.Setup.Nodes, p.plan.Setup.Clients
	first := p.tape.Below(10)
	switch first {
	case 0, 1, 2:
		p.begins(p.tape.Below(clients))
	case 3, 4, 5, 6:
		p.play(deliver, p.tape.Below(p.s.Waiting()), 0)
	case 7:
		p.play(drop, p.tape.Below(p.s.Waiting()), 0)
	case 8:
		p.play(double, p.tape.Below(p.s.Waiting()), 0)
	case 9:
		switch second := p.tape.Below(6); second {
		case 0:
			p.play(allTalk, 0, 0)
		case 1:
			p.play(halves, nodes, 0)
		case 2:
			p.play(bridge, nodes, 0)
		case 3:
			p.play(ring, nodes, 0)
		case 4:
			p.play(alone, nodes, p.tape.Below(nodes))
		case 5:
			p.play(giveUp, p.tape.Below(clients), 0)
		}
	}
}

// plainRun is promise 20.2 word by word, where nothing is wrong.
func plainRun(t *testing.T, plan farm.Plan, tape []int) farm.Report {
	t.Helper()
	s, err := store.New(plan.Setup)
	if err != nil {
		t.Fatal(err)
	}
	g, err := gen.Parse(plan.Gen)
	if err != nil {
		t.Fatal(err)
	}
	p := &player{plan: plan, tape: &gen.Tape{Numbers: tape}, g: g, s: s}
	for p.tape.Used() < len(tape) {
		p.byTape()
	}
	p.play(allTalk, 0, 0)
	for {
		for s.Waiting() != 0 {
			p.play(deliver, 0, 0)
		}
		count := 0
		for c := 0; c < plan.Setup.Clients; c++ {
			if p.begins(c) {
				count++
			}
		}
		if count == 0 {
			break
		}
	}
	ops, err := event.Ops(s.Events())
	if err != nil {
		t.Fatal(err)
	}
	v, err := linear.Check(api.Register, ops, plan.Budget)
	if err != nil {
		t.Fatal(err)
	}
	return farm.Report{Title: plan.Title, Events: s.Events(), Verdict: v}
}

// 20.2: what is seen, and the verdict, is that of the promise's own words.
func TestRunIsPlain(t *testing.T) {
	d := die(41)
	codes := map[int]int{}
	for range 9000 {
		p, tape := drawnPlan(&d), drawnTape(&d, []int{5, 60, 400}[d.n(3)])
		if d.n(3) == 0 {
			p = loosePlan(&d)
		}
		got, err := farm.Run(p, tape)
		if want := plainRun(t, p, tape); err != nil || !sameReport(got, want) {
			t.Fatalf("%v by %v: %v, %v, not %v", p, tape, got, err, want)
		}
		codes[got.Code]++
	}
	for code := linear.Valid; code <= linear.Unknown; code++ {
		if codes[code] < 100 {
			t.Errorf("too few of a kind: %v", codes)
		}
	}
}

// 20.2: the longest tapes, whatever their numbers.
func TestRunLongTapes(t *testing.T) {
	d := die(42)
	for n := range 30 {
		p := drawnPlan(&d)
		p.Budget = 500
		tape := make([]int, 2000)
		for i := range tape {
			tape[i] = d.n(1 << 30)
			if n < 10 {
				tape[i] = n
			}
		}
		got, err := farm.Run(p, tape)
		if want := plainRun(t, p, tape); err != nil || !sameReport(got, want) {
			t.Fatalf("%v: %v, %v, not %v", p, got, err, want)
		}
	}
}

// The whole, 10: quorums that meet, and readers who tell, are enough; what is called valid has a witness.
func TestRunQuorums(t *testing.T) {
	d := die(43)
	meet, bad := 0, 0
	for range 1500 {
		p, tape := loosePlan(&d), drawnTape(&d, 500)
		if d.n(2) == 0 {
			p.Ask, p.Tell = 1+d.n(p.Nodes), 1+d.n(p.Nodes)
		}
		r, err := farm.Run(p, tape)
		if err != nil {
			t.Fatal(err)
		}
		if p.Ask+p.Tell > p.Nodes && p.Back {
			meet++
			if r.Code == linear.Invalid {
				t.Fatalf("%v by %v: %v", p, tape, r)
			}
		}
		if r.Code == linear.Invalid {
			bad++
		}
		if r.Code != linear.Valid {
			continue
		}
		ops, _ := event.Ops(r.Events)
		if ok, err := linear.Shows(api.Register, ops, r.Order); !ok || err != nil {
			t.Fatalf("%v by %v: %v shows nothing: %v", p, tape, r.Order, err)
		}
	}
	if meet < 200 || bad < 30 {
		t.Error("too few of a kind:", meet, bad)
	}
}

// The whole, 12: a report is read again from its page.
func TestReportsAreReadAgain(t *testing.T) {
	d := die(44)
	for range 1000 {
		p := drawnPlan(&d)
		p.Title = drawnTitle(&d)
		r, err := farm.Run(p, drawnTape(&d, 200))
		if err != nil {
			t.Fatal(err)
		}
		page, err := farm.Page(r)
		if err != nil {
			t.Fatal(err)
		}
		if again, err := farm.Read(page); err != nil || !sameReport(again, r) {
			t.Fatalf("%q: %v, %v, not %v", page, again, err, r)
		}
	}
}

// drawnTitle has signs that are written otherwise, and parts of how they are.
func drawnTitle(d *die) string {
	parts := []string{"&", "<", ">", `"`, "'", "amp;", "lt;", "#34;", "#39;", "&lt;", "x", " ", "\xff", "é", ";", "</h1>"}
	title := ""
	for range d.n(12) {
		title += parts[d.n(len(parts))]
	}
	return title
}

const number = `(?:0|-?[1-9][0-9]*)`

// wide says whether all numbers of a text, with blanks between, are of 64 bits; least and top are further bounds.
func wide(text string, least, top int) bool {
	for _, w := range strings.Fields(text) {
		if n, err := strconv.ParseInt(w, 10, 64); err != nil || int(n) < least || int(n) > top {
			return false
		}
	}
	return true
}

var (
	pageForm = regexp.MustCompile(`^<h1>((?:[^&<>"'\n]|&(?:amp|lt|gt|#34|#39);)*)</h1>\n` +
		`<p>(?:valid|invalid|unknown) (` + number + `)</p>\n<p>((?:` + number + `(?: ` + number + `)*)?)</p>\n<pre>\n((?:[^<>\n]*\n)*)</pre>\n$`)
	lineForm = regexp.MustCompile(`^[0-7] (invoke|ok|fail|info) (?:read|write|swap|add|get|put|drop|has|push|pop|lock|unlock) [0-7] (` + number + ` ` + number + `) (` + number + `)$`)
)

// isPage is promise 20.4 told by forms: whether there is a report that makes this page.
func isPage(page string) bool {
	m := pageForm.FindStringSubmatch(page)
	if m == nil || len(page) > api.MaxText {
		return false
	}
	title := regexp.MustCompile(`&[^;]*;`).ReplaceAllString(m[1], "x")
	if len(title) > 1000 || !wide(m[2]+" "+m[3], -1<<63, 1<<63-1) || len(strings.Fields(m[3])) > api.MaxOps {
		return false
	}
	lines := strings.Split(m[4], "\n")
	lines = lines[:len(lines)-1]
	for _, line := range lines {
		e := lineForm.FindStringSubmatch(line)
		if e == nil || !wide(e[2]+" "+e[3], -api.MaxNumber, api.MaxNumber) || e[1] != "ok" && e[3] != "0" {
			return false
		}
	}
	return len(lines) <= api.MaxEvents
}

// 20.4: of any text Read tells the report that makes it, or that there is none.
func TestReadIsPlain(t *testing.T) {
	d := die(45)
	words := []string{"", "0", "1", "9", "-", " ", "\n", "x", "<", "&", "&lt;", ";", "valid", "ok", "1000001", "99999999999999999999", "</p>\n", "0 invoke read 0 0 0 0\n", "\xff"}
	read, not := 0, 0
	for range 20_000 {
		p := drawnPlan(&d)
		p.Title, p.Gen = drawnTitle(&d), "limit 3 mix (read 0, write 0 1 15)"
		r, err := farm.Run(p, drawnTape(&d, 20))
		if err != nil {
			t.Fatal(err)
		}
		page, err := farm.Page(r)
		if err != nil {
			t.Fatal(err)
		}
		for range d.n(3) {
			i := d.n(len(page) + 1)
			j := min(len(page), i+d.n(3))
			page = page[:i] + words[d.n(len(words))] + page[j:]
		}
		got, err := farm.Read(page)
		if want := isPage(page); want != (err == nil) || !want && err != error(api.ErrForm) {
			t.Fatalf("%q: %v, %v, but there is one: %v", page, got, err, want)
		}
		if err != nil {
			not++
			continue
		}
		read++
		if again, err := farm.Page(got); err != nil || again != page || strings.Contains(got.Title, "\n") {
			t.Fatalf("%q: %v makes %q", page, got, again)
		}
	}
	if read < 1000 || not < 1000 {
		t.Error("too few of a kind:", read, not)
	}
}

// drawnLine is a line of a plan that may be right or not, the name first.
func drawnLine(d *die) string {
	names := []string{"title", "gen", "back", "nodes", "clients", "quorum", "budget", "nodes", "clients", "quorum", "gen", "", "node"}
	name := names[d.n(len(names))]
	numbers := []string{"0", "1", "2", "3", "3", "2", "1", "8", "-1", "x", "1000001", "02"}
	one := numbers[d.n(len(numbers)/(1+d.n(2)))]
	two := numbers[d.n(len(numbers)/(1+d.n(2)))]
	rest := map[string][]string{
		"title": {" a", "", " b c"}, "gen": {" read 1", " limit 3 read 0", " read 9", " read", ""}, "back": {" yes", " no", " x", ""},
		"quorum": {" " + one + " " + two, " " + one, " " + one + " " + two}, "": {"", "", " x"},
	}[name]
	if rest == nil {
		rest = []string{" " + one, " " + one, " " + one + " " + two, ""}
	}
	return name + rest[d.n(len(rest))]
}

// plainFault is what is wrong with a line, whose words are taken apart by a form, number by number.
func plainFault(line string) api.Errno {
	forms := map[string]string{
		"title": `^title( .*)?$`, "gen": `^gen( .*)?$`, "back": `^back (yes|no)$`,
		"nodes": `^nodes [^ ]+$`, "clients": `^clients [^ ]+$`, "budget": `^budget [^ ]+$`, "quorum": `^quorum [^ ]+ [^ ]+$`,
	}
	name := strings.Split(line, " ")[0]
	form, known := forms[name]
	switch {
	case !known:
		return api.ErrName
	case !regexp.MustCompile(form).MatchString(line):
		return api.ErrForm
	case name == "gen":
		_, err := gen.Parse(strings.TrimPrefix(strings.TrimPrefix(line, "gen"), " "))
		return api.Tell(err)
	case name == "title" || name == "back":
		return api.OK
	}
	for _, word := range strings.Split(line, " ")[1:] {
		if !regexp.MustCompile(`^`+number+`$`).MatchString(word) || !wide(word, math.MinInt, math.MaxInt) {
			return api.ErrForm
		}
		if !wide(word, 0, api.MaxBudget) {
			return api.ErrRange
		}
	}
	return api.OK
}

// plainParse is what is wrong with a plan's text by promise 20.1, and where.
func plainParse(text string) (api.Errno, int) {
	place, ahead := 0, []string{}
	var setup store.Setup
	for _, line := range strings.Split(text, "\n") {
		name := strings.Split(line, " ")[0]
		if line != "" {
			if n := plainFault(line); n != api.OK {
				return n, place
			}
			if slices.Contains(ahead, name) {
				return api.ErrTwice, place
			}
			ahead = append(ahead, name)
		}
		fmt.Sscanf(line, "nodes %d", &setup.Nodes)
		fmt.Sscanf(line, "clients %d", &setup.Clients)
		fmt.Sscanf(line, "quorum %d %d", &setup.Ask, &setup.Tell)
		place += len(line) + 1
	}
	for _, name := range []string{"nodes", "clients", "quorum", "gen"} {
		if !slices.Contains(ahead, name) {
			return api.ErrMissing, len(text)
		}
	}
	return api.Tell(store.Check(setup)), nowhere
}

// 20.1: what is wrong with a text, and where, is that of the promise's own words.
func TestParseIsPlain(t *testing.T) {
	d := die(46)
	kinds := map[api.Errno]int{}
	for range 40_000 {
		lines := []string{"nodes 3", "clients 2", "quorum 2 2", "gen read 0"}
		for range d.n(4) {
			if i := d.n(len(lines)); d.n(2) == 0 {
				lines[i] = drawnLine(&d)
			} else {
				lines = slices.Insert(lines, i, drawnLine(&d))
			}
		}
		text := strings.Join(lines, "\n")
		want, place := plainParse(text)
		kinds[want]++
		p, err := farm.Parse(text)
		if want == api.OK {
			if err != nil || p.Gen == "" {
				t.Fatalf("%q: %v, %v", text, p, err)
			}
			continue
		}
		if !isFault(err, want, place) || p != (farm.Plan{}) {
			t.Fatalf("%q: %v, %#v, not %v at %d", text, p, err, want, place)
		}
	}
	for _, e := range []api.Errno{api.OK, api.ErrForm, api.ErrRange, api.ErrLimit, api.ErrName, api.ErrTwice, api.ErrMissing} {
		if kinds[e] < 50 {
			t.Errorf("too few of a kind: %v", kinds)
		}
	}
}
