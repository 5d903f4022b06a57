package serial_test

import (
	"slices"
	"testing"

	"testimony/api"
	"testimony/graph"
	"testimony/serial"
)

// die: numbers that look drawn, the same each time.
type die uint64

func (d *die) n(most int) int {
	*d = *d*6364136223846793005 + 1442695040888963407
	return int(uint64(*d>>33) % uint64(most))
}

// mix is at most that many steps of some transactions at some keys; some commit, some abort, some are never over.
func mix(d *die, most, txs, keys int) []serial.Step {
	var l []serial.Step
	var over [api.MaxTx]bool
	first := d.n(api.MaxTx - txs + 1)
	for range d.n(most + 1) {
		s := serial.Step{Tx: first + d.n(txs), Kind: serial.Read + d.n(2), Key: d.n(keys)}
		if d.n(most) < txs {
			s.Kind, s.Key = serial.Commit+d.n(4)/3, 0
		}
		if !over[s.Tx] {
			l = append(l, s)
			over[s.Tx] = s.Kind >= serial.Commit
		}
	}
	for tx := first; tx < first+txs && len(l) < most; tx++ {
		if !over[tx] && d.n(5) > 0 {
			l = append(l, serial.Step{Tx: tx, Kind: serial.Commit})
		}
	}
	return l
}

// where is the place of that step, or -1.
func where(l []serial.Step, tx, kind int) int {
	return slices.Index(l, serial.Step{Tx: tx, Kind: kind})
}

// commits are those that commit, rising.
func commits(l []serial.Step) []int {
	var txs []int
	for tx := range api.MaxTx {
		if where(l, tx, serial.Commit) >= 0 {
			txs = append(txs, tx)
		}
	}
	return txs
}

// ofTx are the Reads and Writes of a transaction.
func ofTx(l []serial.Step, tx int) []serial.Step {
	var own []serial.Step
	for _, s := range l {
		if s.Tx == tx && s.Kind < serial.Commit {
			own = append(own, s)
		}
	}
	return own
}

// plainDone is promise 11.1 of Done word by word.
func plainDone(l []serial.Step) []serial.Step {
	return slices.DeleteFunc(slices.Clone(l), func(s serial.Step) bool {
		return s.Kind >= serial.Commit || where(l, s.Tx, serial.Commit) < 0
	})
}

// plainGraph is promise 11.2 word by word.
func plainGraph(l []serial.Step) graph.Graph {
	g := make(graph.Graph, api.MaxTx)
	done := plainDone(l)
	for i := range g {
		for k := range g {
			leads := false
			for n, a := range done {
				for m, b := range done {
					clash := a.Tx != b.Tx && a.Key == b.Key && !(a.Kind == serial.Read && b.Kind == serial.Read)
					leads = leads || a.Tx == i && b.Tx == k && n < m && clash
				}
			}
			g[i] = append(g[i], leads)
		}
	}
	return g
}

// name tells a step among all of its transaction: the Write or Read that it is, however they are mixed.
type name struct{ tx, number int }

// names are those of steps, in order.
func names(l []serial.Step) []name {
	var all []name
	var count [api.MaxTx]int
	for _, s := range l {
		all = append(all, name{s.Tx, count[s.Tx]})
		count[s.Tx]++
	}
	return all
}

// sight is what is seen: of each step that is a Read what it reads from, and of each key what is last.
type sight struct {
	from map[name]name
	last map[int]name
}

// nobody is what a Read reads from that finds nothing.
var nobody = name{-1, -1}

// sightOf is promise 11.3 word by word: for each Read it goes back to the last Write of its key.
func sightOf(done []serial.Step) sight {
	v := sight{map[name]name{}, map[int]name{}}
	all := names(done)
	find := func(key, end int) name {
		for n := end - 1; n >= 0; n-- {
			if done[n].Kind == serial.Write && done[n].Key == key {
				return all[n]
			}
		}
		return nobody
	}
	for n, s := range done {
		if s.Kind == serial.Read {
			v.from[all[n]] = find(s.Key, n)
		}
	}
	for key := range api.MaxKeys {
		v.last[key] = find(key, len(done))
	}
	return v
}

// isSame says whether two sights are the same.
func isSame(v, w sight) bool {
	for read, write := range v.from {
		if w.from[read] != write {
			return false
		}
	}
	for key, write := range v.last {
		if w.last[key] != write {
			return false
		}
	}
	return len(v.from) == len(w.from)
}

// behind are the steps transaction by transaction, without their ends.
func behind(l []serial.Step, order []int) []serial.Step {
	var all []serial.Step
	for _, tx := range order {
		all = append(all, ofTx(l, tx)...)
	}
	return all
}

// orders are all of some numbers, by the first number in which they differ.
func orders(l []int) [][]int {
	if len(l) == 0 {
		return [][]int{{}}
	}
	var all [][]int
	for n, first := range l {
		for _, rest := range orders(slices.Concat(l[:n], l[n+1:])) {
			all = append(all, append([]int{first}, rest...))
		}
	}
	return all
}

// plainSees is the first of all orders in which the same is seen.
func plainSees(l []serial.Step) (order []int, ok bool) {
	seen := sightOf(plainDone(l))
	for _, order := range orders(commits(l)) {
		if isSame(seen, sightOf(behind(l, order))) {
			return order, true
		}
	}
	return nil, false
}

// found is the number of the last Write of a step's key ahead of it whose transaction did not abort between them, or -1.
func found(l []serial.Step, n int) int {
	for m := n - 1; m >= 0; m-- {
		if l[m].Kind == serial.Write && l[m].Key == l[n].Key && where(l[m:n], l[m].Tx, serial.Abort) < 0 {
			return m
		}
	}
	return -1
}

// plainCareful is promise 11.4 word by word.
func plainCareful(l []serial.Step) serial.Kind {
	k := strict
	for n, s := range l {
		m := found(l, n)
		if s.Kind >= serial.Commit || m < 0 || l[m].Tx == s.Tx {
			continue
		}
		other := l[m].Tx
		if where(l[:n], other, serial.Commit) >= 0 || where(l[:n], other, serial.Abort) >= 0 {
			continue
		}
		k.Strict = false
		if s.Kind == serial.Write {
			continue
		}
		k.Clean = false
		own, theirs := where(l, s.Tx, serial.Commit), where(l, other, serial.Commit)
		if own >= 0 && (theirs < 0 || theirs > own) {
			k.Recover = false
		}
	}
	return k
}

// 11.1, 11.2 and 11.4: what is told is that of the promises' own words.
func TestIsPlain(t *testing.T) {
	d := die(111)
	kinds := map[serial.Kind]int{}
	ordered, round := 0, 0
	for range 6000 {
		l := mix(&d, 1+d.n(60), 1+d.n(api.MaxTx), 1+d.n(api.MaxKeys))
		checkFine(t, "drawn", l)
		checkDone(t, "drawn", l, plainDone(l))
		g, err := serial.Graph(l)
		plain := plainGraph(l)
		if roads(t, g) != roads(t, plain) || err != nil {
			t.Fatalf("%v: %v, %v", l, g, err)
		}
		want, fault := graph.Order(plain)
		want = slices.DeleteFunc(want, func(tx int) bool { return !slices.Contains(commits(l), tx) })
		way, _ := graph.Cycle(plain)
		order, cycle, err := serial.Clashes(l)
		if !slices.Equal(order, want) || !slices.Equal(cycle, way) || err != fault {
			t.Fatalf("%v: %v, %v, %v", l, order, cycle, err)
		}
		if err == nil {
			ordered++
		} else {
			round++
		}
		kind := plainCareful(l)
		kinds[kind]++
		if got, err := serial.Careful(l); got != kind || err != nil {
			t.Fatalf("%v: %v, %v, not %v", l, got, err, kind)
		}
	}
	if len(kinds) != 4 || min(kinds[strict], kinds[clean], kinds[recovers], kinds[careless], ordered, round) < 100 {
		t.Errorf("too few of a kind: %v, %d have an order, %d go round", kinds, ordered, round)
	}
}

// 11.3: what is told is that of the promise's own words.
func TestSeesIsPlain(t *testing.T) {
	d := die(112)
	rising, other, none, many := 0, 0, 0, 0
	for range 5000 {
		l := mix(&d, 1+d.n(30), 1+d.n(7), 1+d.n(5))
		order, err := serial.Sees(l)
		if len(commits(l)) > 6 {
			many++
			if order != nil || err != error(api.ErrLimit) {
				t.Fatalf("%v: %v, %v", l, order, err)
			}
			continue
		}
		want, ok := plainSees(l)
		if !slices.Equal(order, want) || ok != (err == nil) || !ok && err != error(api.ErrNone) {
			t.Fatalf("%v: %v, %v, not %v", l, order, err, want)
		}
		switch {
		case !ok:
			none++
		case slices.IsSorted(order):
			rising++
		default:
			other++
		}
	}
	if min(rising, other, none) < 300 || many < 20 {
		t.Errorf("too few of a kind: %d rising, %d other orders, %d have none, %d are too many", rising, other, none, many)
	}
}

// one is the steps of some transactions, one behind the other, each with its Commit.
func one(l []serial.Step, order []int) []serial.Step {
	var all []serial.Step
	for _, tx := range order {
		all = append(all, append(ofTx(l, tx), serial.Step{Tx: tx, Kind: serial.Commit})...)
	}
	return all
}

// Without a way round, transactions one behind the other clash and see the same.
func TestClashesTellsSees(t *testing.T) {
	d := die(113)
	blind := 0
	for range 4000 {
		l := mix(&d, 1+d.n(30), 1+d.n(6), 1+d.n(5))
		order, _, err := serial.Clashes(l)
		seen, fault := serial.Sees(l)
		if err != nil {
			if fault == nil {
				blind++
			}
			continue
		}
		behind := one(l, order)
		g, _ := serial.Graph(l)
		h, _ := serial.Graph(behind)
		if fault != nil || roads(t, g) != roads(t, h) || slices.Compare(seen, order) > 0 {
			t.Fatalf("%v: %v, but %v, %v", l, order, seen, fault)
		}
		if !isSame(sightOf(serial.Done(l)), sightOf(serial.Done(behind))) {
			t.Fatalf("%v: something else is seen in %v", l, order)
		}
	}
	if blind < 20 {
		t.Errorf("too few of a kind: %d go round, but are seen in an order", blind)
	}
}

// What is done one behind the other has an order, that one or one ahead of it, and is strict.
func TestOneBehindTheOther(t *testing.T) {
	d := die(114)
	for range 1000 {
		l := mix(&d, 1+d.n(50), 1+d.n(6), 1+d.n(5))
		order := commits(l)
		for n := range order {
			k := n + d.n(len(order)-n)
			order[n], order[k] = order[k], order[n]
		}
		l = one(l, order)
		clashes, cycle, err := serial.Clashes(l)
		seen, fault := serial.Sees(l)
		kind, wrong := serial.Careful(l)
		if err != nil || fault != nil || wrong != nil || cycle != nil || kind != strict {
			t.Fatalf("%v: %v, %v, %v, %v, %v", l, err, fault, wrong, cycle, kind)
		}
		if slices.Compare(clashes, order) > 0 || slices.Compare(seen, clashes) > 0 {
			t.Fatalf("%v: %v, %v", l, clashes, seen)
		}
	}
}

// What is strict is clean, and can recover; what is clean can recover.
func TestStrictIsClean(t *testing.T) {
	d := die(115)
	for range 4000 {
		l := mix(&d, 1+d.n(60), 1+d.n(api.MaxTx), 1+d.n(api.MaxKeys))
		k, err := serial.Careful(l)
		if err != nil || k.Strict && !k.Clean || k.Clean && !k.Recover {
			t.Fatalf("%v: %v, %v", l, k, err)
		}
	}
}

// As many steps as may be, of six that commit: all orders are tried.
func TestSeesEnds(t *testing.T) {
	var l []serial.Step
	for n := range api.MaxSteps - 6 {
		l = append(l, serial.Step{Tx: n % 6, Kind: serial.Read + n/6%2, Key: n % api.MaxKeys})
	}
	for tx := range 6 {
		l = append(l, serial.Step{Tx: tx, Kind: serial.Commit})
	}
	want, ok := plainSees(l)
	order, err := serial.Sees(l)
	if !slices.Equal(order, want) || ok != (err == nil) {
		t.Errorf("%v, %v, not %v, %v", order, err, want, ok)
	}
}
