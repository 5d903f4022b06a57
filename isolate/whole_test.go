package isolate_test

import (
	"slices"
	"testing"

	"testimony/api"
	"testimony/graph"
	"testimony/isolate"
)

// die: numbers that look drawn, the same each time.
type die uint64

func (d *die) n(most int) int {
	*d = *d*6364136223846793005 + 1442695040888963407
	return int(uint64(*d>>33) % uint64(most))
}

// size is what drawn stories are made of, at most: ops are of each transaction, odd is of how many one is so (does not commit; reads what is not a last version).
type size struct{ txs, keys, ops, odd int }

// drawn is a story that may be: reads of any version that is written, lists in any order.
func drawn(d *die, z size) isolate.Story {
	s := isolate.Story{Txs: make([]isolate.Tx, d.n(z.txs+1)), Order: make([][]int, api.MaxKeys)}
	for n := range s.Txs {
		s.Txs[n].Commits = d.n(z.odd) > 0
		for range d.n(z.ops + 1) {
			op := isolate.Op{Write: d.n(2) == 0, Key: d.n(z.keys)}
			s.Txs[n].Ops = append(s.Txs[n].Ops, op)
		}
	}
	for _, tx := range s.Txs {
		for n := range tx.Ops {
			if !tx.Ops[n].Write {
				tx.Ops[n].From, tx.Ops[n].Number = drawnRead(d, s, tx.Ops[n].Key, z.odd)
			}
		}
	}
	for key := range s.Order {
		s.Order[key] = makers(s, key)
		shuffle(d, s.Order[key])
	}
	return s
}

// drawnRead is what may be read of a key.
func drawnRead(d *die, s isolate.Story, key, odd int) (from, number int) {
	from = d.n(len(s.Txs))
	if d.n(4) == 0 || writes(s, from, key) == 0 {
		return -1, 0
	}
	number = writes(s, from, key) - 1
	if d.n(odd) == 0 {
		number = d.n(number + 1)
	}
	return from, number
}

func shuffle(d *die, l []int) {
	for n := range l {
		k := n + d.n(len(l)-n)
		l[n], l[k] = l[k], l[n]
	}
}

// writes is how many a transaction has of a key.
func writes(s isolate.Story, tx, key int) int {
	count := 0
	for _, op := range s.Txs[tx].Ops {
		if op == write(key) {
			count++
		}
	}
	return count
}

// makers are those that commit and write a key, rising.
func makers(s isolate.Story, key int) []int {
	var l []int
	for tx := range s.Txs {
		if s.Txs[tx].Commits && writes(s, tx, key) > 0 {
			l = append(l, tx)
		}
	}
	return l
}

// readBy says whether a transaction has a read that is so.
func readBy(s isolate.Story, tx int, so func(op isolate.Op) bool) bool {
	return slices.ContainsFunc(s.Txs[tx].Ops, func(op isolate.Op) bool { return !op.Write && so(op) })
}

// isRightBehind says whether k stands right behind i in a list; behind nobody (-1) stands the first one.
func isRightBehind(list []int, i, k int) bool {
	for n := range list {
		if list[n] == k {
			return n == 0 && i == -1 || n > 0 && list[n-1] == i
		}
	}
	return false
}

// plainOver, plainSeen and plainAnew are the words of 12.2: whether i leads to k.
func plainOver(s isolate.Story, i, k int) bool {
	return slices.ContainsFunc(s.Order, func(list []int) bool { return isRightBehind(list, i, k) })
}

func plainSeen(s isolate.Story, i, k int) bool {
	return i != k && s.Txs[i].Commits && s.Txs[k].Commits && readBy(s, k, func(op isolate.Op) bool {
		return op.From == i && op.Number+1 == writes(s, i, op.Key)
	})
}

func plainAnew(s isolate.Story, i, k int) bool {
	return i != k && s.Txs[i].Commits && readBy(s, i, func(op isolate.Op) bool {
		return (op.From == -1 || s.Txs[op.From].Commits) && isRightBehind(s.Order[op.Key], op.From, k)
	})
}

type leads func(i, k int) bool

// reaches says whether i leads to k over one or more, by walking on from i.
func reaches(nodes, i, k int, by leads) bool {
	been := make([]bool, nodes)
	var walk func(from int) bool
	walk = func(from int) bool {
		for to := range nodes {
			if !by(from, to) || been[to] {
				continue
			}
			been[to] = true
			if to == k || walk(to) {
				return true
			}
		}
		return false
	}
	return walk(i)
}

// plainFinds is the words of 12.3.
func plainFinds(s isolate.Story) []bool {
	nodes := len(s.Txs)
	over := func(i, k int) bool { return plainOver(s, i, k) }
	known := func(i, k int) bool { return over(i, k) || plainSeen(s, i, k) }
	every := func(i, k int) bool { return known(i, k) || plainAnew(s, i, k) }
	finds := make([]bool, 6)
	for i := range nodes {
		finds[dirty] = finds[dirty] || reaches(nodes, i, i, over)
		finds[round] = finds[round] || reaches(nodes, i, i, known)
		finds[aborted] = finds[aborted] || s.Txs[i].Commits && readBy(s, i, func(op isolate.Op) bool {
			return op.From >= 0 && op.From != i && !s.Txs[op.From].Commits
		})
		finds[between] = finds[between] || s.Txs[i].Commits && readBy(s, i, func(op isolate.Op) bool {
			return op.From >= 0 && op.From != i && op.Number+1 < writes(s, op.From, op.Key)
		})
		for k := range nodes {
			finds[single] = finds[single] || plainAnew(s, i, k) && reaches(nodes, k, i, known)
			finds[all] = finds[all] || plainAnew(s, i, k) && reaches(nodes, k, i, every)
		}
	}
	return finds
}

// plainLevel is the words of 12.4.
func plainLevel(finds []bool) int {
	if finds[dirty] {
		return 0
	}
	if finds[aborted] || finds[between] || finds[round] {
		return 1
	}
	if finds[all] {
		return 2
	}
	return 3
}

// isLike says whether a graph leads as words do.
func isLike(g graph.Graph, nodes int, by leads) bool {
	if !isSquare(g, nodes) {
		return false
	}
	for i, row := range g {
		for k := range row {
			if row[k] != by(i, k) {
				return false
			}
		}
	}
	return true
}

// fits says whether all edges of a story lead from ahead to behind in an order.
func fits(e isolate.Edges, order []int) bool {
	for n, k := range order {
		for _, i := range order[:n+1] {
			if e.Over[k][i] || e.Seen[k][i] || e.Anew[k][i] {
				return false
			}
		}
	}
	return true
}

func committers(s isolate.Story) []int {
	var l []int
	for tx := range s.Txs {
		if s.Txs[tx].Commits {
			l = append(l, tx)
		}
	}
	return l
}

// 12.1 to 12.4: what is told is that of the promises' own words.
func TestIsPlain(t *testing.T) {
	d := die(121)
	var count [6]int
	var levels [4]int
	sizes := []size{{3, 2, 3, 6}, {4, 3, 4, 8}, {api.MaxTx, 3, 3, 30}, {api.MaxTx, api.MaxKeys, 3, 30}, {api.MaxTx, api.MaxKeys, 20, 10}}
	for n := range 30_000 {
		s := drawn(&d, sizes[n%len(sizes)])
		if err := isolate.Check(s); err != nil {
			t.Fatalf("%v: %v", s, err)
		}
		e, err := isolate.All(s)
		nodes := len(s.Txs)
		if err != nil ||
			!isLike(e.Over, nodes, func(i, k int) bool { return plainOver(s, i, k) }) ||
			!isLike(e.Seen, nodes, func(i, k int) bool { return plainSeen(s, i, k) }) ||
			!isLike(e.Anew, nodes, func(i, k int) bool { return plainAnew(s, i, k) }) {
			t.Fatalf("%v: %v, %v", s, e, err)
		}
		want := plainFinds(s)
		finds, err := isolate.Finds(s)
		level, fault := isolate.Level(s)
		if !slices.Equal(finds, want) || err != nil || level != plainLevel(want) || fault != nil {
			t.Fatalf("%v: %v, %v, %d, %v, not %v", s, finds, err, level, fault, want)
		}
		for name, found := range finds {
			if found {
				count[name]++
			}
		}
		levels[level]++
	}
	if slices.Min(count[:]) < 500 || slices.Min(levels[:]) < 500 {
		t.Errorf("too few of a kind: %v, levels %v", count, levels)
	}
}

// What goes round by less goes round by more; and there is an order that fits all edges just if nothing goes round (ADYA).
func TestOrderOrRound(t *testing.T) {
	d := die(122)
	ordered, none := 0, 0
	for range 8000 {
		s := drawn(&d, size{1 + d.n(api.MaxTx), 1 + d.n(api.MaxKeys), 6, 12})
		finds, _ := isolate.Finds(s)
		if finds[dirty] && !finds[round] || finds[single] && !finds[all] {
			t.Fatalf("%v: %v", s, finds)
		}
		order, err := isolate.Serial(s)
		if finds[round] || finds[all] {
			none++
			if order != nil || err != error(api.ErrCycle) {
				t.Fatalf("%v: %v, but %v, %v", s, finds, order, err)
			}
			continue
		}
		ordered++
		e, _ := isolate.All(s)
		sorted := slices.Sorted(slices.Values(order))
		if err != nil || !slices.Equal(sorted, committers(s)) || !fits(e, order) {
			t.Fatalf("%v: %v, %v", s, order, err)
		}
	}
	if min(ordered, none) < 1000 {
		t.Errorf("too few of a kind: %d have an order, %d have none", ordered, none)
	}
}

// orders are all of some numbers, which rise, the first one first.
func orders(l []int) [][]int {
	if len(l) == 0 {
		return [][]int{nil}
	}
	var every [][]int
	for n, first := range l {
		rest := slices.Delete(slices.Clone(l), n, n+1)
		for _, order := range orders(rest) {
			every = append(every, append([]int{first}, order...))
		}
	}
	return every
}

// Of all orders that fit, Serial is the first one (by the first number in which they differ): those that don't commit lead nowhere.
func TestSerialIsFirst(t *testing.T) {
	d := die(123)
	other := 0
	for range 5000 {
		s := drawn(&d, size{5, 1 + d.n(4), 3, 8})
		e, _ := isolate.All(s)
		order, err := isolate.Serial(s)
		every := orders(committers(s))
		n := slices.IndexFunc(every, func(l []int) bool { return fits(e, l) })
		if n < 0 && err == nil || n >= 0 && !slices.Equal(order, every[n]) {
			t.Fatalf("%v: %v, %v, not %d of %v", s, order, err, n, every)
		}
		if n > 0 {
			other++
		}
	}
	if other < 500 {
		t.Errorf("too few of a kind: %d are not in rising order", other)
	}
}

// version is what one copy has of a key: who wrote it, and which of its writes it is.
type version struct{ from, number int }

// copyOf is what one copy has ahead of each of some transactions, one behind the other, and at the end.
func copyOf(s isolate.Story, order []int) (ahead [api.MaxTx][api.MaxKeys]version, end [api.MaxKeys]version) {
	for key := range end {
		end[key] = version{-1, 0}
	}
	for _, tx := range order {
		ahead[tx] = end
		for key := range end {
			if count := writes(s, tx, key); count > 0 {
				end[key] = version{tx, count - 1}
			}
		}
	}
	return ahead, end
}

// isTold says whether one copy tells, of each read of another one's, or of what was there at first, what was read; and at the end the last of each list.
func isTold(s isolate.Story, order []int) bool {
	ahead, end := copyOf(s, order)
	for _, tx := range order {
		if readBy(s, tx, func(op isolate.Op) bool { return op.From != tx && ahead[tx][op.Key] != version{op.From, op.Number} }) {
			return false
		}
	}
	for key, list := range s.Order {
		if len(list) > 0 && end[key].from != list[len(list)-1] {
			return false
		}
	}
	return true
}

// At level 3 one copy tells what was read, in the order of Serial.
func TestOneCopyTells(t *testing.T) {
	d := die(124)
	long := 0
	for range 20_000 {
		s := drawn(&d, size{1 + d.n(api.MaxTx), 1 + d.n(api.MaxKeys), 2, 12})
		if level, _ := isolate.Level(s); level < 3 {
			continue
		}
		order, err := isolate.Serial(s)
		if err != nil || !isTold(s, order) {
			t.Fatalf("%v: %v, %v", s, order, err)
		}
		if e, _ := isolate.All(s); len(order) > 2 && roads(e.Seen) != "" && roads(e.Anew) != "" {
			long++
		}
	}
	if long < 200 {
		t.Errorf("too few of a kind: %d", long)
	}
}

// What is read of one copy, one transaction behind the other, is of level 3; and its order fits.
func TestOneCopyIsSerial(t *testing.T) {
	d := die(125)
	for range 3000 {
		s := drawn(&d, size{api.MaxTx, 1 + d.n(api.MaxKeys), 6, 6})
		order := committers(s)
		shuffle(&d, order)
		ahead, _ := copyOf(s, order)
		for _, tx := range order {
			for n, op := range s.Txs[tx].Ops {
				if v := ahead[tx][op.Key]; !op.Write {
					s.Txs[tx].Ops[n].From, s.Txs[tx].Ops[n].Number = v.from, v.number
				}
			}
		}
		for key := range s.Order {
			s.Order[key] = slices.DeleteFunc(slices.Clone(order), func(tx int) bool { return writes(s, tx, key) == 0 })
		}
		e, err := isolate.All(s)
		level, fault := isolate.Level(s)
		first, wrong := isolate.Serial(s)
		if err != nil || fault != nil || wrong != nil || level != 3 || !fits(e, order) || slices.Compare(first, order) > 0 {
			t.Fatalf("%v: %v, %v, %v, %d, %v", s, err, fault, wrong, level, first)
		}
	}
}

// plainCheck is the words of 12.1.
func plainCheck(s isolate.Story) error {
	if len(s.Txs) > api.MaxTx {
		return api.ErrLimit
	}
	if len(s.Order) != api.MaxKeys {
		return api.ErrForm
	}
	for _, tx := range s.Txs {
		if len(tx.Ops) > api.MaxSteps {
			return api.ErrLimit
		}
		for _, op := range tx.Ops {
			if op.Key < 0 || op.Key > api.MaxKeys-1 || op.From < -1 || op.From > len(s.Txs)-1 || op.Number < 0 {
				return api.ErrRange
			}
			if op.Write && op.From != 0 || op.Write && op.Number != 0 || op.From == -1 && op.Number != 0 {
				return api.ErrArg
			}
			if !op.Write && op.From != -1 && !hasMore(s.Txs[op.From], op.Key, op.Number) {
				return api.ErrMissing
			}
		}
	}
	for key, list := range s.Order {
		for n, tx := range list {
			if tx < 0 || tx > len(s.Txs)-1 {
				return api.ErrRange
			}
			if !s.Txs[tx].Commits || !hasMore(s.Txs[tx], key, 0) {
				return api.ErrNone
			}
			if slices.Contains(list[:n], tx) {
				return api.ErrTwice
			}
		}
		if len(list) != len(makers(s, key)) {
			return api.ErrForm
		}
	}
	return nil
}

// hasMore says whether a transaction has more than that many writes of a key.
func hasMore(tx isolate.Tx, key, number int) bool {
	l := slices.DeleteFunc(slices.Clone(tx.Ops), func(op isolate.Op) bool { return !op.Write || op.Key != key })
	return len(l) > number
}

// spoiled is a story with some numbers changed.
func spoiled(d *die, s isolate.Story) isolate.Story {
	for range 1 + d.n(2) {
		wrong := []int{-2, -1, 0, 1, 2, 7, 8, 9}[d.n(8)]
		if d.n(2) == 0 {
			key := d.n(len(s.Order))
			switch list := s.Order[key]; {
			case len(list) == 0 || d.n(3) == 0:
				s.Order[key] = append(list, wrong)
			case d.n(2) == 0:
				s.Order[key] = list[1:]
			default:
				list[d.n(len(list))] = wrong
			}
			continue
		}
		if len(s.Txs) == 0 {
			continue
		}
		tx := &s.Txs[d.n(len(s.Txs))]
		if len(tx.Ops) == 0 {
			tx.Commits = !tx.Commits
			continue
		}
		op := &tx.Ops[d.n(len(tx.Ops))]
		switch d.n(5) {
		case 0:
			op.Key = wrong
		case 1:
			op.From = wrong
		case 2:
			op.Number = wrong
		case 3:
			op.Write = !op.Write
		case 4:
			tx.Commits = !tx.Commits
		}
	}
	return s
}

// 12.1: of what is wrong, the first is told; P1: nothing panics.
func TestCheckIsPlain(t *testing.T) {
	d := die(126)
	count := make(map[api.Errno]int)
	for range 20_000 {
		s := spoiled(&d, drawn(&d, size{1 + d.n(api.MaxTx), 1 + d.n(4), 4, 6}))
		want := plainCheck(s)
		count[api.Tell(want)]++
		if want != nil {
			checkFault(t, "spoiled", s, api.Tell(want))
		} else {
			checkFine(t, "spoiled", s)
		}
		if t.Failed() {
			t.Fatalf("%v", s)
		}
	}
	for _, e := range []api.Errno{api.OK, api.ErrRange, api.ErrArg, api.ErrMissing, api.ErrNone, api.ErrTwice, api.ErrForm} {
		if count[e] < 50 {
			t.Errorf("too few of a kind: %v", count)
		}
	}
}
