package lock_test

import (
	"slices"
	"testing"

	"testimony/api"
	"testimony/lock"
	"testimony/serial"
)

// die: numbers that look drawn, the same each time.
type die uint64

func (d *die) n(most int) int {
	*d = *d*6364136223846793005 + 1442695040888963407
	return int(uint64(*d>>33) % uint64(most))
}

// draw is a plan of at most that many lists, at some keys, and picks, some of which are no transactions.
func draw(d *die, txs, keys int) (p lock.Plan, picks []int) {
	room := api.MaxSteps - txs
	longest := 1 + d.n(12)
	for tx := range d.n(txs + 1) {
		var list []serial.Step
		for range min(d.n(longest+1), room) {
			list = append(list, serial.Step{Tx: tx, Kind: serial.Read + d.n(2), Key: d.n(keys)})
		}
		room -= len(list)
		p = append(p, list)
	}
	for range d.n(1 + d.n(201)) {
		picks = append(picks, d.n(txs+2)-1)
	}
	return p, picks
}

// scene is promise 13.2 word by word: all that is known is what was done, and whom each one waited for when it went on the last time.
type scene struct {
	plan lock.Plan
	out  lock.Outcome
	whom [api.MaxTx][]int
}

// isOver says whether a transaction has a Commit or an Abort.
func (s *scene) isOver(tx int) bool {
	return slices.ContainsFunc(s.out.Done, func(d serial.Step) bool { return d.Tx == tx && d.Kind >= serial.Commit })
}

// holds says whether a transaction does, of a key, to read (or to write): it did such a step, and is not over.
func (s *scene) holds(tx, kind, key int) bool {
	return !s.isOver(tx) && slices.Contains(s.out.Done, serial.Step{Tx: tx, Kind: kind, Key: key})
}

// against are the others that stand against a step.
func (s *scene) against(step serial.Step) []int {
	var all []int
	for tx := range s.plan {
		if tx != step.Tx && (s.holds(tx, serial.Write, step.Key) || step.Kind == serial.Write && s.holds(tx, serial.Read, step.Key)) {
			all = append(all, tx)
		}
	}
	return all
}

// waitsFor says whether one waits for another one, over at most that many others; who is over waits no more.
func (s *scene) waitsFor(tx, other, over int) bool {
	if s.isOver(tx) || over < 0 {
		return false
	}
	return slices.ContainsFunc(s.whom[tx], func(next int) bool { return next == other || s.waitsFor(next, other, over-1) })
}

// next is the step that a transaction has not done.
func (s *scene) next(tx int) (serial.Step, bool) {
	done := 0
	for _, d := range s.out.Done {
		if d.Tx == tx {
			done++
		}
	}
	if done == len(s.plan[tx]) {
		return serial.Step{}, false
	}
	return s.plan[tx][done], true
}

func (s *scene) goOn(tx int) {
	if s.isOver(tx) {
		return
	}
	s.whom[tx] = nil
	step, ok := s.next(tx)
	if !ok {
		s.out.Done = append(s.out.Done, serial.Step{Tx: tx, Kind: serial.Commit})
		return
	}
	if s.whom[tx] = s.against(step); len(s.whom[tx]) == 0 {
		s.out.Done = append(s.out.Done, step)
		return
	}
	s.out.Waits[tx]++
	most := len(s.plan)
	if !s.waitsFor(tx, tx, most) {
		return
	}
	for victim := most - 1; ; victim-- {
		if s.waitsFor(tx, victim, most) && s.waitsFor(victim, tx, most) {
			s.out.Done = append(s.out.Done, serial.Step{Tx: victim, Kind: serial.Abort})
			s.out.Victim = append(s.out.Victim, victim)
			return
		}
	}
}

// plainPlay goes through picks, then round by round.
func plainPlay(p lock.Plan, picks []int) lock.Outcome {
	s := &scene{plan: p, out: lock.Outcome{Waits: make([]int, len(p))}}
	for _, tx := range picks {
		if tx >= 0 && tx < len(p) {
			s.goOn(tx)
		}
	}
	for allOver := false; !allOver; {
		allOver = true
		for tx := range p {
			s.goOn(tx)
			allOver = allOver && s.isOver(tx)
		}
	}
	return s.out
}

// 13.2: what is told is that of the promise's own words.
func TestIsPlain(t *testing.T) {
	d := die(131)
	victims := map[int]int{}
	for range 20000 {
		p, picks := draw(&d, api.MaxTx-d.n(3), 1+d.n(api.MaxKeys))
		o, err := lock.Play(p, picks)
		want := plainPlay(p, picks)
		if err != nil || told(o) != told(want) {
			t.Fatalf("%v, %v: %s, %v, not %s", p, picks, told(o), err, told(want))
		}
		victims[len(o.Victim)]++
	}
	for n := range 5 {
		if victims[n] < 100 {
			t.Errorf("too few with as many victims: %v", victims)
		}
	}
}

// place is where a transaction's end of that kind stands, or -1.
func place(o lock.Outcome, tx, kind int) int {
	return slices.Index(o.Done, serial.Step{Tx: tx, Kind: kind})
}

// Each transaction does its steps in order, all of them and a Commit, or some and an Abort; those are the victims, in order, and each of them waited.
func TestEachIsOver(t *testing.T) {
	d := die(132)
	for range 3000 {
		p, picks := draw(&d, api.MaxTx-d.n(3), 1+d.n(api.MaxKeys))
		o, err := lock.Play(p, picks)
		if err != nil || len(o.Waits) != len(p) {
			t.Fatalf("%v, %v: %v, %v", p, picks, o, err)
		}
		var aborts []int
		own := make(lock.Plan, len(p))
		for _, s := range o.Done {
			own[s.Tx] = append(own[s.Tx], s)
			if s.Kind == serial.Abort {
				aborts = append(aborts, s.Tx)
			}
		}
		if !slices.Equal(aborts, o.Victim) {
			t.Fatalf("%v, %v: %s", p, picks, told(o))
		}
		for tx, l := range own {
			last := l[len(l)-1]
			l = l[:len(l)-1]
			commits := last == serial.Step{Tx: tx, Kind: serial.Commit} && len(l) == len(p[tx])
			aborts := last == serial.Step{Tx: tx, Kind: serial.Abort} && len(l) < len(p[tx]) && o.Waits[tx] > 0
			if !slices.Equal(l, p[tx][:len(l)]) || !commits && !aborts {
				t.Fatalf("%v, %v: %s", p, picks, told(o))
			}
		}
	}
}

// Two phases are enough: what is done may be, clashes as those that commit do one behind the other, in the order of their Commits, too, and is strict.
func TestTwoPhasesAreEnough(t *testing.T) {
	d := die(133)
	mixed := 0
	for range 4000 {
		p, picks := draw(&d, api.MaxTx-d.n(3), 1+d.n(api.MaxKeys))
		o, _ := lock.Play(p, picks)
		g, err := serial.Graph(o.Done)
		order, cycle, fault := serial.Clashes(o.Done)
		kind, wrong := serial.Careful(o.Done)
		if err != nil || fault != nil || cycle != nil || wrong != nil || !kind.Strict || len(order)+len(o.Victim) != len(p) {
			t.Fatalf("%v, %v: %s: %v, %v, %v, %v", p, picks, told(o), err, fault, wrong, kind)
		}
		for tx, row := range g {
			for other, leads := range row {
				if !leads {
					continue
				}
				mixed++
				if place(o, tx, serial.Commit) > place(o, other, serial.Commit) {
					t.Fatalf("%v, %v: %s: %d clashes with %d", p, picks, told(o), tx, other)
				}
			}
		}
	}
	if mixed < 1000 {
		t.Errorf("too few clash: %d", mixed)
	}
}

// Those that go on one behind the other, or that only read, neither wait nor are ended.
func TestNobodyWaits(t *testing.T) {
	d := die(134)
	for range 1000 {
		p, picks := draw(&d, api.MaxTx-d.n(3), 1+d.n(api.MaxKeys))
		var behind []int
		for tx := len(p) - 1; tx >= 0; tx-- {
			behind = append(behind, slices.Repeat([]int{tx}, len(p[tx])+1)...)
		}
		o, err := lock.Play(p, behind)
		if err != nil || slices.ContainsFunc(o.Waits, func(n int) bool { return n != 0 }) || len(o.Victim) != 0 {
			t.Fatalf("%v: %s, %v", p, told(o), err)
		}
		for _, list := range p {
			for n := range list {
				list[n].Kind = serial.Read
			}
		}
		o, err = lock.Play(p, picks)
		if err != nil || slices.ContainsFunc(o.Waits, func(n int) bool { return n != 0 }) || len(o.Victim) != 0 {
			t.Fatalf("%v, %v: %s, %v", p, picks, told(o), err)
		}
	}
}
