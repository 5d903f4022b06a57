package clock_test

import (
	"slices"
	"testing"

	"testimony/api"
	"testimony/clock"
)

// die: numbers that look drawn, the same each time.
type die uint64

func (d *die) n(most int) int {
	*d = *d*6364136223846793005 + 1442695040888963407
	return int(uint64(*d>>33) % uint64(most))
}

// walk is at most that many steps of at most that many processes; messages arrive in any order, or don't. Their numbers don't rise.
func walk(d *die, most, procs int) []clock.Step {
	var l []clock.Step
	var open []int
	for n := range d.n(most + 1) {
		p := d.n(procs)
		switch kind := d.n(5); {
		case kind >= 3 && len(open) > 0:
			i := d.n(len(open))
			l = append(l, receive(p, open[i]))
			open = slices.Delete(open, i, i+1)
		case kind >= 1:
			message := n * 37 % 41 * (api.MaxNumber / 41)
			l = append(l, send(p, message))
			open = append(open, message)
		default:
			l = append(l, own(p))
		}
	}
	return l
}

// isAhead is promise 9.2 word by word.
func isAhead(l []clock.Step, a, b int) bool {
	first, second := l[a], l[b]
	if first.Proc == second.Proc && a < b {
		return true
	}
	if first.Kind == clock.Send && second.Kind == clock.Receive && first.Message == second.Message {
		return true
	}
	for between := a + 1; between < b; between++ {
		if isAhead(l, a, between) && isAhead(l, between, b) {
			return true
		}
	}
	return false
}

// tableOf is that of each two, with each pair asked once: from near to far.
func tableOf(l []clock.Step) [][]bool {
	rows := make([][]bool, len(l))
	for a := range rows {
		rows[a] = make([]bool, len(l))
	}
	for far := range l {
		for a := 0; a+far < len(l); a++ {
			b := a + far
			straight := far > 0 && isAhead([]clock.Step{l[a], l[b]}, 0, 1)
			for between := a + 1; between < b && !straight; between++ {
				straight = rows[a][between] && rows[between][b]
			}
			rows[a][b] = straight
		}
	}
	return rows
}

// timesOf is promise 9.2 word by word.
func timesOf(l []clock.Step) []int {
	var times []int
	for n, s := range l {
		time, sending := 0, 0
		for m, other := range l[:n] {
			if other.Proc == s.Proc {
				time = times[m]
			}
			if s.Kind == clock.Receive && other.Kind == clock.Send && other.Message == s.Message {
				sending = times[m]
			}
		}
		times = append(times, max(time+1, sending+1))
	}
	return times
}

// vectorOf is promise 9.3 word by word.
func vectorOf(l []clock.Step, rows [][]bool, n int) clock.Vector {
	var v clock.Vector
	for m, s := range l {
		if m == n || rows[m][n] {
			v[s.Proc]++
		}
	}
	return v
}

// isIn says whether a step is among the first ones of its process.
func isIn(l []clock.Step, c clock.Cut, n int) bool {
	before := 0
	for _, s := range l[:n] {
		if s.Proc == l[n].Proc {
			before++
		}
	}
	return before < c[l[n].Proc]
}

// isSteady is promise 9.4 word by word.
func isSteady(l []clock.Step, rows [][]bool, c clock.Cut) bool {
	for a, row := range rows {
		for b, ahead := range row {
			if ahead && isIn(l, c, b) && !isIn(l, c, a) {
				return false
			}
		}
	}
	return true
}

// all is the cut of all steps.
func all(l []clock.Step) clock.Cut {
	var c clock.Cut
	for _, s := range l {
		c[s.Proc]++
	}
	return c
}

// allCuts are those with no more steps than that one.
func allCuts(most clock.Cut) []clock.Cut {
	cuts := []clock.Cut{{}}
	for p, n := range most {
		for _, c := range cuts {
			for c[p] < n {
				c[p]++
				cuts = append(cuts, c)
			}
		}
	}
	return cuts
}

// someCut is one of them.
func someCut(d *die, most clock.Cut) clock.Cut {
	for p := range most {
		most[p] = d.n(most[p] + 1)
	}
	return most
}

// The plain table, which is made from near to far, is the words' own.
func TestTableIsPlain(t *testing.T) {
	d := die(90)
	for range 300 {
		l := walk(&d, 8, 4)
		for a, row := range tableOf(l) {
			for b, ahead := range row {
				if want := a < b && isAhead(l, a, b); ahead != want {
					t.Fatalf("%v: %d and %d: %v", l, a, b, ahead)
				}
			}
		}
	}
}

// 9.1 to 9.3: what is told is that of the promises' own words.
func TestIsPlain(t *testing.T) {
	d := die(91)
	for range 1500 {
		l := walk(&d, 40, 1+d.n(api.MaxProcs))
		rows := tableOf(l)
		checkFine(t, "drawn", l...)
		checkTimes(t, "drawn", timesOf(l), l...)
		checkAhead(t, "drawn", drawn(rows), l...)
		var vectors []clock.Vector
		for n := range l {
			vectors = append(vectors, vectorOf(l, rows, n))
		}
		checkVectors(t, "drawn", vectors, l...)
	}
}

// One step happened ahead of another one just if its vector is less; then its time is less, too.
func TestVectorsTellAhead(t *testing.T) {
	d := die(92)
	ahead, beside, misled := 0, 0, 0
	for range 1500 {
		l := walk(&d, 40, 1+d.n(api.MaxProcs))
		rows, err := clock.Ahead(l)
		vectors, fault := clock.Vectors(l)
		times, wrong := clock.Times(l)
		if err != nil || fault != nil || wrong != nil {
			t.Fatal(err, fault, wrong)
		}
		for a := range l {
			for b := range l {
				if rows[a][b] != vectors[a].Less(vectors[b]) || rows[a][b] && times[a] >= times[b] || a != b && vectors[a] == vectors[b] {
					t.Fatalf("%v: %d and %d: %v, %v and %v, %d and %d", l, a, b, rows[a][b], vectors[a], vectors[b], times[a], times[b])
				}
				switch {
				case rows[a][b]:
					ahead++
				case times[a] < times[b]:
					misled++
				case a != b:
					beside++
				}
			}
		}
	}
	if min(ahead, beside, misled) < 10_000 {
		t.Errorf("too few of a kind: %d ahead, %d beside, %d with less times that are not", ahead, beside, misled)
	}
}

// 9.4: what is told is that of the promise's own words, of each cut.
func TestCutsArePlain(t *testing.T) {
	d := die(93)
	steady, torn := 0, 0
	for range 400 {
		l := walk(&d, 10, 4)
		rows := tableOf(l)
		var seen []clock.Cut
		cuts := allCuts(all(l))
		for _, c := range cuts {
			ok, err := clock.Steady(l, c)
			if ok != isSteady(l, rows, c) || err != nil {
				t.Fatalf("%v, %v: Steady tells %v, %v", l, c, ok, err)
			}
			if ok {
				seen = append(seen, c)
			}
		}
		checkCount(t, "drawn", len(seen), l...)
		checkGreatest(t, l, cuts, seen)
		steady, torn = steady+len(seen), torn+len(cuts)-len(seen)
	}
	if min(steady, torn) < 2000 {
		t.Errorf("too few of a kind: %d steady, %d not", steady, torn)
	}
}

// checkGreatest asks whether Below is a steady cut within another one, and all others are within it.
func checkGreatest(t *testing.T, l []clock.Step, cuts, steady []clock.Cut) {
	t.Helper()
	for _, c := range cuts {
		below, err := clock.Below(l, c)
		if err != nil || !below.Within(c) || !slices.Contains(steady, below) {
			t.Fatalf("%v, %v: Below tells %v, %v", l, c, below, err)
		}
		for _, s := range steady {
			if s.Within(c) && !s.Within(below) {
				t.Fatalf("%v, %v: Below tells %v, but there is %v", l, c, below, s)
			}
		}
	}
}

// Of long lists, too, cuts are the words' own.
func TestLongCutsArePlain(t *testing.T) {
	d := die(94)
	counted, tooMany := 0, 0
	for range 400 {
		l := walk(&d, 40, 1+d.n(api.MaxProcs))
		rows := tableOf(l)
		for range 10 {
			c := someCut(&d, all(l))
			ok, err := clock.Steady(l, c)
			below, fault := clock.Below(l, c)
			if ok != isSteady(l, rows, c) || err != nil || fault != nil || !isSteady(l, rows, below) || !below.Within(c) || ok != (below == c) {
				t.Fatalf("%v, %v: %v, %v; %v, %v", l, c, ok, err, below, fault)
			}
		}
		product := 1
		for _, n := range all(l) {
			product *= n + 1
		}
		switch n, err := clock.Cuts(l); {
		case product > 10_000 && n == 0 && err == error(api.ErrLimit):
			tooMany++
		case product <= 10_000 && n >= len(l)+1 && n <= product && err == nil:
			counted++
		default:
			t.Fatalf("%v: %d of %d, %v", l, n, product, err)
		}
	}
	if min(counted, tooMany) < 50 {
		t.Errorf("too few of a kind: %d counted, %d that were too many", counted, tooMany)
	}
}

// least is, of each process, the fewer steps.
func least(c, d clock.Cut) clock.Cut {
	for p := range c {
		c[p] = min(c[p], d[p])
	}
	return c
}

// Cuts that may be seen are a lattice: of two of them the greater and the fewer steps make one, too.
func TestLattice(t *testing.T) {
	d := die(95)
	beside := 0
	for range 1500 {
		l := walk(&d, 40, 2+d.n(api.MaxProcs-1))
		a, err := clock.Below(l, someCut(&d, all(l)))
		b, fault := clock.Below(l, someCut(&d, all(l)))
		if err != nil || fault != nil {
			t.Fatal(err, fault)
		}
		for _, c := range []clock.Cut{{}, all(l), a, b, a.Join(b), least(a, b)} {
			if ok, err := clock.Steady(l, c); !ok || err != nil {
				t.Fatalf("%v: %v and %v, but %v: %v, %v", l, a, b, c, ok, err)
			}
		}
		if !a.Within(b) && !b.Within(a) {
			beside++
		}
	}
	if beside < 300 {
		t.Errorf("too few of a kind: %d", beside)
	}
}

// What each step knows is a cut that may be seen: the least one that it is in. And so is each beginning of the list.
func TestVectorsAreSteady(t *testing.T) {
	d := die(96)
	for range 500 {
		l := walk(&d, 40, 1+d.n(api.MaxProcs))
		vectors, err := clock.Vectors(l)
		if err != nil {
			t.Fatal(err)
		}
		for n, v := range vectors {
			for _, c := range []clock.Cut{v, all(l[:n])} {
				if ok, err := clock.Steady(l, c); !ok || err != nil {
					t.Fatalf("%v, step %d: %v: %v, %v", l, n, c, ok, err)
				}
			}
			v[l[n].Proc]--
			if ok, err := clock.Steady(l, v); !ok || err != nil {
				t.Fatalf("%v, ahead of step %d: %v, %v", l, n, ok, err)
			}
		}
	}
}
