package mvcc_test

import (
	"slices"
	"testing"

	"testimony/api"
	"testimony/isolate"
	"testimony/mvcc"
)

// die: numbers that look drawn, the same each time.
type die uint64

func (d *die) n(most int) int {
	*d = *d*6364136223846793005 + 1442695040888963407
	return int(uint64(*d>>33) % uint64(most))
}

// size is what drawn asks are made of, at most; of how many one is an end, and of how many one may be wrong (0: none).
type size struct{ txs, keys, asks, end, odd int }

// draw is asks of some transactions, many of which begin ahead of all else, and commit behind it, so that they are beside each other.
func draw(d *die, z size) []mvcc.Ask {
	var l []mvcc.Ask
	begun, over := make([]bool, z.txs), make([]bool, z.txs)
	for tx := range begun {
		if begun[tx] = d.n(3) > 0; begun[tx] {
			l = append(l, mvcc.Ask{Tx: tx, Kind: mvcc.Begin})
		}
	}
	for range d.n(z.asks + 1) {
		a := mvcc.Ask{Tx: d.n(z.txs), Kind: mvcc.Read + d.n(3)/2, Key: d.n(z.keys)}
		if d.n(z.end) == 0 {
			a.Kind, a.Key = mvcc.Commit+d.n(12)/11, 0
		}
		if !begun[a.Tx] {
			a.Kind, a.Key = mvcc.Begin, 0
		}
		if z.odd > 0 && d.n(z.odd) == 0 {
			l = append(l, mvcc.Ask{Tx: d.n(z.txs+2) - 1, Kind: d.n(7), Key: d.n(api.MaxKeys+2) - 1})
		} else if !over[a.Tx] {
			l = append(l, a)
			begun[a.Tx] = true
			over[a.Tx] = a.Kind >= mvcc.Commit
		}
	}
	for tx := range over {
		if begun[tx] && !over[tx] && d.n(4) > 0 {
			l = append(l, mvcc.Ask{Tx: tx, Kind: mvcc.Commit})
		}
	}
	return l
}

// did is something that was done: at the time that its place tells (the first one's is 1); commits: it was a Commit, and did so.
type did struct {
	mvcc.Ask
	commits bool
}

// scene is the promises word by word: all that is known is what was done.
type scene struct {
	txs     int
	careful bool
	past    []did
}

// begin and commit are a transaction's times, or -1.
func (s *scene) begin(tx int) int {
	return s.when(func(d did) bool { return d.Tx == tx && d.Kind == mvcc.Begin })
}

func (s *scene) commit(tx int) int {
	return s.when(func(d did) bool { return d.Tx == tx && d.commits })
}

func (s *scene) when(so func(d did) bool) int {
	if n := slices.IndexFunc(s.past, so); n >= 0 {
		return n + 1
	}
	return -1
}

// steps are a transaction's Reads and Writes that were done ahead of a time.
func (s *scene) steps(tx, time int) []did {
	return slices.DeleteFunc(slices.Clone(s.past[:time-1]), func(d did) bool {
		return d.Tx != tx || d.Kind != mvcc.Read && d.Kind != mvcc.Write
	})
}

// writes is how many of a key a transaction did ahead of a time.
func (s *scene) writes(tx, key, time int) int {
	return len(slices.DeleteFunc(s.steps(tx, time), func(d did) bool { return d.Kind != mvcc.Write || d.Key != key }))
}

// now is the time that is next.
func (s *scene) now() int { return len(s.past) + 1 }

// fault is what is wrong with an ask.
func (s *scene) fault(a mvcc.Ask) error {
	if a.Tx < 0 || a.Tx > s.txs-1 || a.Key < 0 || a.Key > api.MaxKeys-1 {
		return api.ErrRange
	}
	step := a.Kind == mvcc.Read || a.Kind == mvcc.Write
	if a.Kind < 1 || a.Kind > 5 || !step && a.Key != 0 {
		return api.ErrArg
	}
	over := s.when(func(d did) bool { return d.Tx == a.Tx && (d.Kind == mvcc.Commit || d.Kind == mvcc.Abort) }) >= 0
	if over || a.Kind == mvcc.Begin && s.begin(a.Tx) >= 0 || a.Kind != mvcc.Begin && s.begin(a.Tx) < 0 {
		return api.ErrState
	}
	if step && len(s.steps(a.Tx, s.now())) == api.MaxSteps {
		return api.ErrLimit
	}
	return nil
}

// read is what the one that was done at a time reads.
func (s *scene) read(time int) isolate.Op {
	d := s.past[time-1]
	if own := s.writes(d.Tx, d.Key, time); own > 0 {
		return isolate.Op{Key: d.Key, From: d.Tx, Number: own - 1}
	}
	for ahead := s.begin(d.Tx) - 1; ahead > 0; ahead-- {
		from := s.past[ahead-1].Tx
		if count := s.writes(from, d.Key, ahead); s.past[ahead-1].commits && count > 0 {
			return isolate.Op{Key: d.Key, From: from, Number: count - 1}
		}
	}
	return isolate.Op{Key: d.Key, From: -1}
}

// firstWon says whether one that committed behind a transaction's begin wrote a key that it wrote.
func (s *scene) firstWon(tx int) bool {
	for other := range s.txs {
		for key := range api.MaxKeys {
			if s.commit(other) > s.begin(tx) && s.writes(other, key, s.now()) > 0 && s.writes(tx, key, s.now()) > 0 {
				return true
			}
		}
	}
	return false
}

// points says whether a transaction points at another one, of those that committed.
func (s *scene) points(tx, other int) bool {
	if tx == other || s.commit(tx) < 0 || s.commit(other) < 0 || s.commit(tx) < s.begin(other) || s.commit(other) < s.begin(tx) {
		return false
	}
	for n, d := range s.past {
		if d.Tx == tx && d.Kind == mvcc.Read && s.read(n+1).From != tx && s.writes(other, d.Key, s.now()) > 0 {
			return true
		}
	}
	return false
}

// mayGoRound says whether one that a transaction points at, that points at it, or it itself both points at one and is pointed at.
func (s *scene) mayGoRound(tx int) bool {
	for pivot := range s.txs {
		if pivot != tx && !s.points(tx, pivot) && !s.points(pivot, tx) {
			continue
		}
		for from := range s.txs {
			for to := range s.txs {
				if s.points(from, pivot) && s.points(pivot, to) {
					return true
				}
			}
		}
	}
	return false
}

// do is what Do tells.
func (s *scene) do(a mvcc.Ask) error {
	if err := s.fault(a); err != nil {
		return err
	}
	won := a.Kind == mvcc.Commit && s.firstWon(a.Tx)
	s.past = append(s.past, did{a, a.Kind == mvcc.Commit && !won})
	if won {
		return api.ErrOld
	}
	if a.Kind == mvcc.Commit && s.careful && s.mayGoRound(a.Tx) {
		s.past[len(s.past)-1].commits = false
		return api.ErrOld
	}
	return nil
}

// story is what Story tells, and spans what Spans tells.
func (s *scene) story() (story isolate.Story, spans [][2]int) {
	story = isolate.Story{Txs: make([]isolate.Tx, s.txs), Order: make([][]int, api.MaxKeys)}
	for n, d := range s.past {
		tx := &story.Txs[d.Tx]
		switch {
		case d.Kind == mvcc.Read:
			tx.Ops = append(tx.Ops, s.read(n+1))
		case d.Kind == mvcc.Write:
			tx.Ops = append(tx.Ops, isolate.Op{Write: true, Key: d.Key})
		case d.commits:
			tx.Commits = true
			for key := range story.Order {
				if s.writes(d.Tx, key, s.now()) > 0 {
					story.Order[key] = append(story.Order[key], d.Tx)
				}
			}
		}
	}
	for tx := range s.txs {
		spans = append(spans, [2]int{s.begin(tx), s.commit(tx)})
	}
	return story, spans
}

// 14.1 to 14.3: what is told is that of the promises' own words.
func TestIsPlain(t *testing.T) {
	d := die(141)
	count := map[api.Errno]int{}
	won := 0
	sizes := []size{{2, 2, 10, 8, 0}, {3, 3, 14, 8, 9}, {4, 4, 20, 8, 20}, {api.MaxTx, 5, 40, 4, 30}, {api.MaxTx, api.MaxKeys, 90, 8, 30}, {2, 2, 200, 300, 40}}
	for n := range 6000 {
		z := sizes[n%len(sizes)]
		s := &scene{txs: z.txs, careful: d.n(2) == 0}
		b := newBase(t, z.txs, s.careful)
		l := draw(&d, z)
		for _, a := range l {
			if s.fault(a) == nil && a.Kind == mvcc.Commit && s.firstWon(a.Tx) {
				won++
			}
			err, want := b.Do(a), s.do(a)
			if err != want {
				t.Fatalf("%v (careful: %v), at %v: %v, not %v", l, s.careful, a, err, want)
			}
			count[api.Tell(err)]++
		}
		story, spans := s.story()
		if got := b.Story(); storyText(got) != storyText(story) || len(got.Order) != api.MaxKeys || !slices.Equal(b.Spans(), spans) {
			t.Fatalf("%v (careful: %v): %s, not %s, %v", l, s.careful, all(b), storyText(story), spans)
		}
	}
	round := count[api.ErrOld] - won
	for _, e := range []api.Errno{api.ErrRange, api.ErrArg, api.ErrState, api.ErrLimit} {
		if count[e] < 100 {
			t.Errorf("too few of a kind: %v", count)
		}
	}
	if min(won, round) < 300 {
		t.Errorf("too few of a kind: %v: the first one won %d times, %d might go round", count, won, round)
	}
}

// done is a base that was asked for all of a list, each of which may be refused.
func done(t *testing.T, txs int, careful bool, l []mvcc.Ask) *mvcc.Base {
	t.Helper()
	b := newBase(t, txs, careful)
	for _, a := range l {
		if err := b.Do(a); err != nil && err != error(api.ErrOld) {
			t.Fatalf("%v, at %v: %v", l, a, err)
		}
	}
	return b
}

// overlap says whether each of two spans commits behind the other's begin.
func overlap(a, b [2]int) bool { return a[1] > b[0] && b[1] > a[0] }

// hasPivot says whether one makes anew what it leads from, and is led to likewise, both beside it in time.
func hasPivot(e isolate.Edges, spans [][2]int) bool {
	for pivot := range spans {
		from, to := false, false
		for other := range spans {
			from = from || e.Anew[other][pivot] && overlap(spans[other], spans[pivot])
			to = to || e.Anew[pivot][other] && overlap(spans[other], spans[pivot])
		}
		if from && to {
			return true
		}
	}
	return false
}

// On snapshots nothing goes round but by Anew, twice at least; what goes round has a pivot (FEKETE).
func TestRoundHasPivot(t *testing.T) {
	d := die(142)
	rounds, pivots := 0, 0
	for range 20_000 {
		z := size{txs: 2 + d.n(api.MaxTx-1), keys: 1 + d.n(api.MaxKeys), asks: 60, end: 4}
		l := draw(&d, z)
		b := done(t, z.txs, false, l)
		s := b.Story()
		finds, err := isolate.Finds(s)
		if err != nil || slices.Contains(finds[:isolate.Any], true) {
			t.Fatalf("%v: %s: %v, %v", l, all(b), finds, err)
		}
		e, _ := isolate.All(s)
		pivot := hasPivot(e, b.Spans())
		if finds[isolate.Any] && !pivot {
			t.Fatalf("%v: %s: no pivot", l, all(b))
		}
		if finds[isolate.Any] {
			rounds++
		} else if pivot {
			pivots++
		}
	}
	if min(rounds, pivots) < 200 {
		t.Errorf("too few of a kind: %d go round, %d have a pivot, but don't", rounds, pivots)
	}
}

// A careful base is serial: level 3, without a pivot.
func TestCarefulIsSerial(t *testing.T) {
	d := die(143)
	mended := 0
	for range 20_000 {
		z := size{txs: 2 + d.n(api.MaxTx-1), keys: 1 + d.n(api.MaxKeys), asks: 60, end: 4}
		l := draw(&d, z)
		b := done(t, z.txs, true, l)
		s := b.Story()
		level, err := isolate.Level(s)
		_, fault := isolate.Serial(s)
		e, _ := isolate.All(s)
		if level != 3 || err != nil || fault != nil || hasPivot(e, b.Spans()) {
			t.Fatalf("%v: %s: %d, %v, %v", l, all(b), level, err, fault)
		}
		if level, _ := isolate.Level(done(t, z.txs, false, l).Story()); level < 3 {
			mended++
		}
	}
	if mended < 200 {
		t.Errorf("too few of a kind: %d go round if the base is not careful", mended)
	}
}

// Transactions one behind the other all commit, in that order, whatever they do, and each reads what one copy has.
func TestOneBehindTheOther(t *testing.T) {
	d := die(144)
	for range 3000 {
		z := size{txs: 1 + d.n(api.MaxTx), keys: 1 + d.n(api.MaxKeys), asks: 60, end: 20}
		l := slices.DeleteFunc(draw(&d, z), func(a mvcc.Ask) bool { return a.Kind >= mvcc.Commit })
		slices.SortStableFunc(l, func(a, b mvcc.Ask) int { return b.Tx - a.Tx })
		for n := len(l) - 1; n >= 0; n-- {
			if n == len(l)-1 || l[n+1].Tx != l[n].Tx {
				l = slices.Insert(l, n+1, mvcc.Ask{Tx: l[n].Tx, Kind: mvcc.Commit})
			}
		}
		for _, careful := range []bool{false, true} {
			b := done(t, z.txs, careful, l)
			s := b.Story()
			var copied [api.MaxKeys]isolate.Op
			for key := range copied {
				copied[key] = isolate.Op{Key: key, From: -1}
			}
			for tx := z.txs - 1; tx >= 0; tx-- {
				if begun := b.Spans()[tx][0] != -1; s.Txs[tx].Commits != begun {
					t.Fatalf("%v: %s", l, all(b))
				}
				for _, op := range s.Txs[tx].Ops {
					switch last := &copied[op.Key]; {
					case !op.Write && op != *last:
						t.Fatalf("%v: %s: %v, not %v", l, all(b), op, *last)
					case op.Write && last.From == tx:
						last.Number++
					case op.Write:
						*last = isolate.Op{Key: op.Key, From: tx}
					}
				}
			}
		}
	}
}

// What a base tells hangs on it alone, and asking it for its story changes nothing.
func TestBasesApart(t *testing.T) {
	d := die(145)
	for range 500 {
		z := size{txs: 1 + d.n(api.MaxTx), keys: 1 + d.n(api.MaxKeys), asks: 60, end: 4}
		l, m := draw(&d, z), draw(&d, z)
		b, c := newBase(t, z.txs, true), newBase(t, z.txs, false)
		for n := range max(len(l), len(m)) {
			if n < len(l) {
				_ = b.Do(l[n])
			}
			_, _ = b.Story(), b.Spans()
			if n < len(m) {
				_ = c.Do(m[n])
			}
		}
		if all(b) != all(done(t, z.txs, true, l)) || all(c) != all(done(t, z.txs, false, m)) {
			t.Fatalf("%v, %v: %s, %s", l, m, all(b), all(c))
		}
	}
}
