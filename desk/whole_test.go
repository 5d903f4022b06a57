package desk_test

import (
	"fmt"
	"regexp"
	"strings"
	"testing"

	"testimony/api"
	"testimony/causal"
	"testimony/desk"
	"testimony/event"
	"testimony/linear"
	"testimony/plain"
	"testimony/queue"
	"testimony/serial"
	"testimony/zone"
)

// die: numbers that look drawn, the same each time.
type die uint64

func (d *die) n(most int) int {
	*d = *d*6364136223846793005 + 1442695040888963407
	return int(uint64(*d>>33) % uint64(most))
}

// of draws one.
func (d *die) of(l ...string) string { return l[d.n(len(l))] }

// plainDesk is promise 21.1 word by word: lines are told apart by forms, and what was told is kept as text.
type plainDesk struct{ events, steps string }

var (
	wordForm = regexp.MustCompile(`[^ ]+`)
	stepForm = regexp.MustCompile(`^(?:([rw])(` + number + `)x(` + number + `)|([ca])(` + number + `))$`)
	objects  = []string{1: "register", 2: "counter", 3: "set", 4: "queue", 5: "stack", 6: "mutex"}
)

const number = `0|-?[1-9][0-9]{0,17}`

// spaced is what Sprint makes of a list, without its brackets.
func spaced(what string, l []int) string {
	return strings.TrimSpace(what + " " + strings.Trim(fmt.Sprint(l), "[]"))
}

func wrong(err error) string {
	n, _ := plain.Place(err)
	return fmt.Sprint("error ", int(n))
}

func (p *plainDesk) all() []event.Event {
	l, err := event.Parse(p.events)
	if err != nil {
		panic(err)
	}
	return l
}

func (p *plainDesk) ops() []api.Op {
	l, err := event.Ops(p.all())
	if err != nil {
		panic(err)
	}
	return l
}

// stepsOf are those of words that are some.
func stepsOf(text string) (l []serial.Step, ok bool) {
	for _, word := range wordForm.FindAllString(text, -1) {
		m := stepForm.FindStringSubmatch(word)
		if m == nil {
			return nil, false
		}
		s := serial.Step{Kind: map[string]int{"r": 1, "w": 2, "c": 3, "a": 4}[m[1]+m[4]]}
		_, _ = fmt.Sscan(m[2]+m[5], &s.Tx)
		_, _ = fmt.Sscan(m[3], &s.Key)
		l = append(l, s)
	}
	return l, true
}

// mixed are the steps so far.
func (p *plainDesk) mixed() []serial.Step {
	l, _ := stepsOf(p.steps)
	return l
}

// see takes a line's event in.
func (p *plainDesk) see(rest string) string {
	one, err := event.Parse(rest)
	if err != nil {
		return wrong(err)
	}
	if _, err := event.Ops(append(p.all(), one...)); err != nil {
		return wrong(err)
	}
	p.events += rest + "\n"
	return fmt.Sprint(strings.Count(p.events, "\n"))
}

// add takes a line's steps in.
func (p *plainDesk) add(rest string) string {
	l, ok := stepsOf(p.steps + " " + rest)
	if !ok {
		return "error 3"
	}
	if err := serial.Check(l); err != nil {
		return wrong(err)
	}
	p.steps += " " + rest
	return fmt.Sprint(len(l))
}

// judge tells a verdict.
func (p *plainDesk) judge(by func(int, []api.Op, int) (linear.Verdict, error), name string) string {
	for object, known := range objects {
		if known != name {
			continue
		}
		v, err := by(object, p.ops(), 20_000)
		if err != nil {
			return wrong(err)
		}
		return spaced([]string{"", "valid", "invalid", "unknown"}[v.Code], v.Order)
	}
	return "error 5"
}

// finds tells three numbers.
func finds(code, a, b int, err error) string {
	if err != nil {
		return wrong(err)
	}
	return fmt.Sprint(code, a, b)
}

// answer is that of a line.
func (p *plainDesk) answer(line string) string {
	line = strings.Trim(line, " ")
	if line == "" {
		return "ok"
	}
	first, rest, _ := strings.Cut(line, " ")
	rest = strings.Trim(rest, " ")
	words := len(wordForm.FindAllString(rest, -1))
	want, known := map[string]int{"see": 7, "check": 1, "same": 1, "steps": words, "events": 0, "ops": 0, "zones": 0, "queue": 0, "causal": 0, "clashes": 0, "sees": 0, "careful": 0, "clear": 0, "help": 0}[first]
	if !known || words != want {
		return "error 3"
	}
	switch first {
	case "see":
		return p.see(rest)
	case "steps":
		return p.add(rest)
	case "check":
		return p.judge(linear.Check, rest)
	case "same":
		return p.judge(linear.Same, rest)
	case "clear":
		*p = plainDesk{}
		return first
	}
	return p.tell(first)
}

// tell is the answer of a line of one word that changes nothing.
func (p *plainDesk) tell(word string) string {
	switch word {
	case "events":
		text, _ := event.Text(p.all())
		return strings.TrimSuffix(strings.Join(strings.Split(text, "\n"), "; "), "; ")
	case "ops":
		return fmt.Sprint(len(p.ops()), strings.Count(fmt.Sprintf("%+v", p.ops()), "Return:-1"))
	case "zones":
		ok, a, b, err := zone.Fits(p.ops())
		if ok {
			return "fits"
		}
		return strings.TrimPrefix(finds(0, a, b, err), "0 ")
	case "queue":
		return finds(queue.Finds(p.ops()))
	case "causal":
		return finds(causal.Finds(p.ops()))
	case "clashes":
		order, cycle, err := serial.Clashes(p.mixed())
		if err != nil {
			return spaced("round", cycle)
		}
		return spaced("order", order)
	case "sees":
		order, err := serial.Sees(p.mixed())
		if err != nil {
			return wrong(err)
		}
		return spaced("order", order)
	case "careful":
		k, _ := serial.Careful(p.mixed())
		all := fmt.Sprintf("careful recover=%v clean=%v strict=%v", k.Recover, k.Clean, k.Strict)
		return strings.ReplaceAll(regexp.MustCompile(` \w+=false`).ReplaceAllString(all, ""), "=true", "")
	}
	return helpLine
}

// drawnEvent is a line that may go on what was seen, or not.
func drawnEvent(d *die, kinds []string) string {
	proc, what := d.n(3), d.of("invoke", "ok", "ok")
	if d.n(20) == 0 {
		what = d.of("fail", "info")
	}
	result := 0
	if what == "ok" {
		result = d.n(4) - 1
	}
	// Of each process always the same is done, so that many come to an end.
	return fmt.Sprintf("see %d %s %s %d %d %d %d", proc, what, kinds[proc%len(kinds)], d.n(30)/29, proc+1+d.n(8)/7, 0, result)
}

func drawnStep(d *die) string {
	if d.n(9) == 0 {
		return fmt.Sprintf("%s%d", d.of("c", "c", "c", "a"), d.n(4))
	}
	return fmt.Sprintf("%s%dx%d", d.of("r", "w"), d.n(4), d.n(2))
}

// drawnLine is one that may be wrong.
func drawnLine(d *die, kinds []string) string {
	line := ""
	switch d.n(4) {
	case 0, 1:
		line = drawnEvent(d, kinds)
	case 2:
		line = "steps"
		for range d.n(5) {
			line += " " + drawnStep(d)
		}
	case 3:
		line = d.of("events", "ops", "zones", "queue", "causal", "clashes", "sees", "careful", "help", "check ", "same ", "", "clear")
		if strings.HasSuffix(line, " ") {
			line += d.of(objects[1:]...)
		}
		if line == "clear" && d.n(4) > 0 {
			line = "causal"
		}
	}
	if d.n(12) == 0 {
		i := d.n(len(line) + 1)
		line = line[:i] + d.of("", " ", "  ", "x", "0", "-", "9", "\t", "\xff", " 1", "r", "9999999") + line[min(len(line), i+d.n(3)):]
	}
	return line
}

// drawnSession is lines of which many go with each other.
func drawnSession(d *die) []string {
	all := [][]string{{"write", "read"}, {"push", "pop"}, {"write", "read", "swap"}, {"add", "get"}, {"put", "has", "drop"}, {"lock", "unlock"}}
	kinds := all[d.n(len(all))]
	var l []string
	for range 1 + d.n(80) {
		l = append(l, drawnLine(d, kinds))
	}
	return l
}

// 21.1: sessions are answered as the promise's own words say.
func TestSessionIsPlain(t *testing.T) {
	d := die(61)
	counts := map[string]int{}
	for range 8000 {
		lines := drawnSession(&d)
		var p plainDesk
		want := ""
		for _, line := range lines {
			answer := p.answer(line)
			want += answer + "\n"
			first, _, _ := strings.Cut(strings.Trim(line, " "), " ")
			counts[first]++
			counts[strings.SplitN(answer, " ", 2)[0]]++
			counts[answer]++
		}
		text := strings.Join(lines, "\n") + d.of("", "\n")
		if lines[len(lines)-1] == "" {
			text = strings.Join(lines, "\n") + "\n"
		}
		if got := desk.Session(text); got != want {
			t.Fatalf("%q: %q, not %q", text, got, want)
		}
	}
	for _, kind := range append(strings.Fields(helpLine), "ok", "valid", "invalid", "fits", "order", "round", "error 1", "error 2", "error 3", "error 5", "error 6", "error 8", "error 9", "error 12", "careful recover clean strict", "careful", "0 0 0") {
		if counts[kind] < 20 {
			t.Errorf("too few of %s: %d", kind, counts[kind])
		}
	}
}

// 21.1: without the lines that are answered by an error all others are answered as they were.
func TestErrorsChangeNothing(t *testing.T) {
	d := die(62)
	left := 0
	for range 3000 {
		lines := drawnSession(&d)
		answers := strings.Split(desk.Session(strings.Join(lines, "\n")+"\n"), "\n")
		var right, want []string
		for i, line := range lines {
			if strings.HasPrefix(answers[i], "error ") {
				left++
				continue
			}
			right, want = append(right, line), append(want, answers[i])
		}
		if len(right) > 0 {
			ask(t, strings.Join(right, "\n")+"\n", strings.Join(want, "\n"))
		}
	}
	if left < 1000 {
		t.Error("too few that are wrong:", left)
	}
}

// 21.1, P1: any bytes are answered, a line for each.
func TestAnyBytes(t *testing.T) {
	d := die(63)
	for range 3000 {
		var b []byte
		for range d.n(200) {
			if d.n(3) == 0 {
				b = append(b, d.of("see ", "steps ", "0 ", "invoke ", "read ", "check ", "r0x", "\n", " ", "x", "sees\n", "clear")...)
			} else {
				b = append(b, byte(d.n(256)))
			}
		}
		text := string(b)
		got := desk.Session(text)
		want := strings.Count(strings.TrimSuffix(text, "\n"), "\n") + 1
		if strings.Count(got, "\n") != want || !strings.HasSuffix(got, "\n") {
			t.Fatalf("%q: %q has not %d lines", text, got, want)
		}
		if again := desk.Session(text); again != got {
			t.Fatalf("%q: %q, then %q", text, got, again)
		}
	}
}
