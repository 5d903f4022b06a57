package isolate_test

import (
	"slices"
	"strconv"
	"strings"
	"testing"

	"testimony/api"
	"testimony/graph"
	"testimony/isolate"
)

// roads are those of a graph, rising: 01 leads from 0 to 1.
func roads(g graph.Graph) string {
	var l []string
	for from, row := range g {
		for to, leads := range row {
			if leads {
				l = append(l, strconv.Itoa(from)+strconv.Itoa(to))
			}
		}
	}
	return strings.Join(l, " ")
}

// isSquare says whether a graph has that many nodes.
func isSquare(g graph.Graph, nodes int) bool {
	return len(g) == nodes && graph.Check(g) == nil
}

// checkAll asks for Over, Seen and Anew of a story.
func checkAll(t *testing.T, text, over, seen, anew string) {
	t.Helper()
	s := story(text)
	e, err := isolate.All(s)
	if err != nil || roads(e.Over) != over || roads(e.Seen) != seen || roads(e.Anew) != anew {
		t.Errorf("%s: over %q, seen %q, anew %q, %v; not %q, %q, %q", text, roads(e.Over), roads(e.Seen), roads(e.Anew), err, over, seen, anew)
	}
	for _, g := range []graph.Graph{e.Over, e.Seen, e.Anew} {
		if !isSquare(g, len(s.Txs)) {
			t.Errorf("%s: %v is not of %d nodes", text, g, len(s.Txs))
		}
	}
}

// 12.2: graphs of all transactions, also of those that don't commit.
func TestAllNone(t *testing.T) {
	for _, text := range []string{
		"", "c", "; c", ";;;;;;; c", "w0 c", "w0 w0 c; c", "r0 c; r0 c", "w0 r0:0 c", "w0 w0 r0:0 r0:0.1 c", "w0 r0 c", "w0; r0:0; w0", "w0 c; w1 c", "w0 c; r0:0; r0",
	} {
		checkAll(t, text, "", "", "")
	}
}

// 12.2: Over: right behind it in a list.
func TestOver(t *testing.T) {
	checkAll(t, "w0 c; w0 c", "01", "", "")
	checkAll(t, "w0 c; w0 c | 0:1,0", "10", "", "")
	checkAll(t, "w0 c; w0 c; w0 c | 0:2,0,1", "01 20", "", "")
	checkAll(t, "w0 c; w0; w0 c", "02", "", "")
	checkAll(t, "w0 w1 c; w0 w1 c", "01", "", "")
	checkAll(t, "w0 w1 c; w0 w1 c | 1:1,0", "01 10", "", "")
	checkAll(t, "w7 c; w7 c; w6 c; w6 c | 7:1,0", "10 23", "", "")
	checkAll(t, "w0 c; w0 c; w0 c; w0 c; w0 c; w0 c; w0 c; w0 c | 0:7,6,5,4,3,2,1,0", "10 21 32 43 54 65 76", "", "")
	checkAll(t, "w0 w0 c; w0 w0 w0 c | 0:1,0", "10", "", "")
}

// 12.2: Seen: the last version of another one that commits, read by one that commits.
func TestSeen(t *testing.T) {
	checkAll(t, "w0 c; r0:0 c", "", "01", "")
	checkAll(t, "r0:1 c; w0 c", "", "10", "")
	checkAll(t, "w0 w0 c; r0:0.1 c", "", "01", "")
	checkAll(t, "w0 w0 c; r0:0 c", "", "", "")
	checkAll(t, "w0 w0 w0 c; r0:0.1 c", "", "", "")
	checkAll(t, "w0 w1 w0 w1 c; r1:0.1 r0:0 c; r0:0 c", "", "01", "")
	checkAll(t, "w0 w1 w1 c; r0:0 c; r1:0 c", "", "01", "")
	checkAll(t, "w0 c; r0:0", "", "", "")
	checkAll(t, "w0; r0:0 c", "", "", "")
	checkAll(t, "w0 c; r0:0 r0:0 c; r0:0 c", "", "01 02", "")
	checkAll(t, "w0 r1:1 c; w1 r0:0 c", "", "01 10", "")
	checkAll(t, "w7 c;;;;;;; r7:0 c", "", "07", "")
}

// 12.2: Anew: to the one that stands right behind what is read, whichever version it is, one's own too.
func TestAnew(t *testing.T) {
	checkAll(t, "r0 c; w0 c", "", "", "01")
	checkAll(t, "w0 c; r0 c", "", "", "10")
	checkAll(t, "r0 c; w0 c; w0 c | 0:2,1", "21", "", "02")
	checkAll(t, "w0 c; w0 c; r0:0 c", "01", "02", "21")
	checkAll(t, "w0 c; w0 c; r0:1 c", "01", "12", "")
	checkAll(t, "w0 c; w0 c; r0:1 c | 0:1,0", "10", "12", "20")
	checkAll(t, "w0 c; w0 c; w0 c; r0:0 r0:1 c", "01 12", "03 13", "31 32")
	checkAll(t, "w0 w0 c; w0 c; r0:0 c", "01", "", "21")
	checkAll(t, "w0 r0:0 c; w0 c", "01", "", "01")
	checkAll(t, "w0 w0 r0:0 c; w0 c", "01", "", "01")
	checkAll(t, "w0 r0:0 c; w0 c | 0:1,0", "10", "", "")
	checkAll(t, "w0 c; r0:0 w0 c", "01", "01", "")
	checkAll(t, "w0 c; r0:0 w0 c; w0 c", "01 12", "01", "")
	checkAll(t, "w0 r0 c; w0 c", "01", "", "")
	checkAll(t, "w0 r0 c; w0 c | 0:1,0", "10", "", "01")
	checkAll(t, "w0 r1 c; w1 r0 c", "", "", "01 10")
	checkAll(t, "w7 c; w7 c; r7:0 c", "01", "02", "21")
}

// 12.2: what one that does not commit reads, or wrote, leads nowhere.
func TestAnewCommits(t *testing.T) {
	checkAll(t, "r0; w0 c", "", "", "")
	checkAll(t, "r0 c; w0", "", "", "")
	checkAll(t, "w0 c; w0 c; r0:0", "01", "", "")
	checkAll(t, "w0; w0 c; r0:0 c", "", "", "")
	checkAll(t, "w0; w0 c; w0 c; r0:0 c", "12", "", "")
	checkAll(t, "w0 c; w0; r0:0 c", "", "02", "")
	checkAll(t, "w0 c; w0; w0 c; r0:0 c", "02", "03", "32")
	checkAll(t, "r0 c; w0; w0 c", "", "", "02")
	checkAll(t, "w0 r0:0; w0 c", "", "", "")
}

// checkFinds asks for the names of what there is, and for the level.
func checkFinds(t *testing.T, text string, level int, names ...int) {
	t.Helper()
	want := make([]bool, 6)
	for _, name := range names {
		want[name] = true
	}
	s := story(text)
	if finds, err := isolate.Finds(s); err != nil || !slices.Equal(finds, want) {
		t.Errorf("%s: %v, %v, not %v", text, finds, err, want)
	}
	if got, err := isolate.Level(s); err != nil || got != level {
		t.Errorf("%s: level %d, %v, not %d", text, got, err, level)
	}
}

const (
	dirty   = isolate.Dirty
	aborted = isolate.Aborted
	between = isolate.Between
	round   = isolate.Round
	single  = isolate.Single
	all     = isolate.Any
)

// 12.3, 12.4: nothing, level 3.
func TestFindsNothing(t *testing.T) {
	for _, text := range []string{
		"", "c", "; c", "w0 c", "w0 c; w0 c", "w0 c; r0:0 c", "w0 c; r0:0 w0 c; r0:1 w0 c", "w0 w1 c; w0 w1 c | 0:1,0 1:1,0", "r0 c; w0 c", "w0 c; w0 c; r0:0 c",
		"w0; w0 c", "w0; r0:0", "w0 r0:0 c", "w0 w0 r0:0 c", "w0 w0 r0:0", "w0 w0; r0:0", "w0 w0 c; r0:0", "w0 r0:0 c; w0 c", "w0 r0 c",
	} {
		checkFinds(t, text, 3)
	}
}

// 12.3, 12.4: Dirty: Over goes round; then all that goes round by Over goes round by Over and Seen, too.
func TestFindsDirty(t *testing.T) {
	checkFinds(t, "w0 w1 c; w0 w1 c | 1:1,0", 0, dirty, round)
	checkFinds(t, "w0 w2 c; w0 w1 c; w1 w2 c | 2:2,0", 0, dirty, round)
	checkFinds(t, "w0 w1 c; w0 w1 | 1:0", 3)
	checkFinds(t, "w0 w1 c; w0 w1 c; r0:0 c | 1:1,0", 0, dirty, round, single, all)
	checkFinds(t, "w0 w1 c; w0 w1 c; w2; r2:2 c; w3 w3 c; r3:4 c | 1:1,0", 0, dirty, aborted, between, round)
}

// 12.3, 12.4: Aborted: one that commits reads what one that doesn't wrote.
func TestFindsAborted(t *testing.T) {
	checkFinds(t, "w0; r0:0 c", 1, aborted)
	checkFinds(t, "r0:1 c; w0", 1, aborted)
	checkFinds(t, "w0; c; r0 r0:0 w1 c", 1, aborted)
	checkFinds(t, "w0; r0:0", 3)
	checkFinds(t, "w0 c; r0:0", 3)
	checkFinds(t, "w0 r0:0", 3)
	checkFinds(t, "w0; w0 c; r0:0 c; w0 c", 1, aborted)
}

// 12.3, 12.4: Between: one that commits reads what is not the last version of another one, which commits or doesn't.
func TestFindsBetween(t *testing.T) {
	checkFinds(t, "w0 w0 c; r0:0 c", 1, between)
	checkFinds(t, "w0 w0 c; r0:0.1 c", 3)
	checkFinds(t, "w0 w0 w0 c; r0:0.1 c", 1, between)
	checkFinds(t, "w0 w1 w1 c; r0:0 c", 3)
	checkFinds(t, "w0 w1 w1 c; r1:0 c", 1, between)
	checkFinds(t, "w0 w0; r0:0 c", 1, aborted, between)
	checkFinds(t, "w0 w0; r0:0.1 c", 1, aborted)
	checkFinds(t, "w0 w0 c; r0:0", 3)
	checkFinds(t, "w0 w0 r0:0 c", 3)
	checkFinds(t, "w0 c; w0 w0 c; r0:0 r0:1.1 c", 2, single, all)
	checkFinds(t, "w0 w0 c; r0:0.1 r0:0 c", 1, between)
}

// 12.3, 12.4: Round: by Over and Seen.
func TestFindsRound(t *testing.T) {
	checkFinds(t, "w0 r1:1 c; w1 r0:0 c", 1, round)
	checkFinds(t, "w0 c; w0 w1 c; r1:1 c", 3)
	checkFinds(t, "w0 r1:1 c; w0 w1 c", 1, round)
	checkFinds(t, "w0 r1:1 c; w0 w1 c | 0:1,0", 3)
	checkFinds(t, "w0 r2:2 c; w1 r0:0 c; w2 r1:1 c", 1, round)
	checkFinds(t, "w0 r2:2 c; w1 r0:0 c; w2 r1:1", 1, aborted)
	checkFinds(t, "w0 r1:1.1 c; w0 w1 w1 c", 1, round)
	checkFinds(t, "w0 r1:1 c; w0 w1 w1 c", 1, between)
}

// 12.3, 12.4: Single: back by Over and Seen alone; what is Single is Any, and of level 2.
func TestFindsSingle(t *testing.T) {
	checkFinds(t, "r0 r1:1 c; w0 w1 c", 2, single, all)
	checkFinds(t, "r0 w0 c; w0 c | 0:1,0", 2, single, all)
	checkFinds(t, "w0 c; r0:0 w0 c; r0:0 w0 c", 2, single, all)
	checkFinds(t, "w0 c; w0 w1 c; r0:0 r1:1 c", 2, single, all)
	checkFinds(t, "r0 r2:2 c; w0 w1 c; r1:1 w2 c", 2, single, all)
	checkFinds(t, "r0 w1 c; w0 w2 c; w2 w1 c | 1:2,0", 2, single, all)
	checkFinds(t, "r0 r2:2 c; w0 w1 c; r1:1 w2", 1, aborted)
	checkFinds(t, "r0 r1:1 c; w0 w1 c; w2 r3:3 c; w3 r2:2 c", 1, round, single, all)
}

// 12.3, 12.4: Any: back by Anew, too.
func TestFindsAny(t *testing.T) {
	checkFinds(t, "w0 r1 c; w1 r0 c", 2, all)
	checkFinds(t, "w0 r1 c; w1 r2 c; w2 r0 c", 2, all)
	checkFinds(t, "w0 r1 c; w1 r0", 3)
	checkFinds(t, "w0 r1 c; w1 c; r1:1 r0 c", 2, all)
	checkFinds(t, "w0 w1 c; r0:0 r1:0 w0 c; r0:0 r1:0 w1 c", 2, all)
	checkFinds(t, "w0 r1 r2 c; w1 r0 w2 c; r2:1 c", 2, all)
	checkFinds(t, "w0 r1 c; w1 r0 c; w3; r3:2 c", 1, aborted, all)
	checkFinds(t, "w0 r1 c; w1 r0 c; w3 w3 c; r3:2 c", 1, between, all)
	checkFinds(t, "w0 r1 c; w1 r0 c; w3 r4:3 c; w4 r3:2 c", 1, round, all)
	checkFinds(t, "w0 r1 c; w1 r0 c; w3 w4 c; w3 w4 c | 4:3,2", 0, dirty, round, all)
}

// checkSerial asks for Serial; a want of nil: ErrCycle.
func checkSerial(t *testing.T, text string, want []int) {
	t.Helper()
	var fault error
	if want == nil {
		fault = api.ErrCycle
	}
	if order, err := isolate.Serial(story(text)); err != fault || !slices.Equal(order, want) || err != nil && order != nil {
		t.Errorf("%s: %v, %v, not %v", text, order, err, want)
	}
}

// 12.4: Serial: those that commit, in the order of all edges together.
func TestSerial(t *testing.T) {
	checkSerial(t, "", []int{})
	checkSerial(t, ";", []int{})
	checkSerial(t, "w0; r0:0", []int{})
	checkSerial(t, "c; c; c", []int{0, 1, 2})
	checkSerial(t, "c; ; c", []int{0, 2})
	checkSerial(t, "w0 c; w0 c; w0 c | 0:2,0,1", []int{2, 0, 1})
	checkSerial(t, "r0:2 c; c; w0 c", []int{1, 2, 0})
	checkSerial(t, "w0 c; c; r0 c", []int{1, 2, 0})
	checkSerial(t, "w0 c; w0 c; r0:1 c | 0:1,0", []int{1, 2, 0})
	checkSerial(t, "w0 r1:2 c; w0 c; w1 r3 c; w3 c | 0:0,1", []int{2, 0, 1, 3})
	checkSerial(t, "r0:7 c; r1 c; c;;; c; w1 c; w0 c", []int{1, 2, 5, 6, 7, 0})
	checkSerial(t, "w0; w0 c; r0:0 c; w0 c | 0:3,1", []int{2, 3, 1})
	checkSerial(t, "w0 w0 c; w0 c; r0:0 c | 0:0,1", []int{0, 2, 1})
}

// 12.4: Serial: ErrCycle, by whichever edges.
func TestSerialCycle(t *testing.T) {
	for _, text := range []string{
		"w0 w1 c; w0 w1 c | 1:1,0", "w0 r1:1 c; w1 r0:0 c", "w0 r1 c; w1 r0 c", "w0 r1:1 c; w0 w1 c", "r0 r1:1 c; w0 w1 c", "r0 w0 c; w0 c | 0:1,0",
		"c; w0 r1 c; w1 r0 c; c", "w0 c; w0 c; r0:0 r0:1 c; c",
	} {
		checkSerial(t, text, nil)
	}
}

// deepCopy is a story of fresh lists.
func deepCopy(s isolate.Story) isolate.Story {
	c := isolate.Story{Txs: slices.Clone(s.Txs), Order: slices.Clone(s.Order)}
	for n := range c.Txs {
		c.Txs[n].Ops = slices.Clone(c.Txs[n].Ops)
	}
	for n := range c.Order {
		c.Order[n] = slices.Clone(c.Order[n])
	}
	return c
}

func isSame(a, b isolate.Story) bool {
	return slices.EqualFunc(a.Txs, b.Txs, func(x, y isolate.Tx) bool { return x.Commits == y.Commits && slices.Equal(x.Ops, y.Ops) }) &&
		slices.EqualFunc(a.Order, b.Order, slices.Equal[[]int])
}

// P4: nothing that is handed in is written into or kept, nor what stands behind its length; what comes out is fresh, no two lists share any.
func TestArgumentStays(t *testing.T) {
	room := story("w0 w1 c r0:1; w0 r1:0 c w8; r0:0 r1 w9; w8 c | 0:1,0,9 1:0,7")
	s := room
	was := deepCopy(room)
	s.Txs = slices.Clone(room.Txs)[:3]
	s.Txs[0].Ops, s.Txs[1].Ops, s.Txs[2].Ops = s.Txs[0].Ops[:2], s.Txs[1].Ops[:2], s.Txs[2].Ops[:2]
	s.Order = slices.Clone(room.Order)
	s.Order[0], s.Order[1], s.Order[7] = s.Order[0][:2], s.Order[1][:1], nil
	for range 2 {
		if err := isolate.Check(s); err != nil {
			t.Fatal(err)
		}
		e, _ := isolate.All(s)
		finds, _ := isolate.Finds(s)
		level, _ := isolate.Level(s)
		order, err := isolate.Serial(s)
		if roads(e.Over) != "10" || roads(e.Seen) != "01" || roads(e.Anew) != "" || !slices.Equal(finds, []bool{false, false, false, true, false, false}) || level != 1 || order != nil || err != error(api.ErrCycle) {
			t.Fatalf("%v, %v, %d, %v, %v", e, finds, level, order, err)
		}
		for n := range finds {
			finds[n] = !finds[n]
		}
		spoil(t, e)
	}
	if !isSame(room, was) {
		t.Errorf("%v was %v", room, was)
	}
	plain := story("w0 c; w0; r0:0 c")
	for range 2 {
		order, err := isolate.Serial(plain)
		if !slices.Equal(order, []int{0, 2}) || err != nil {
			t.Fatal(order, err)
		}
		order = order[:cap(order)]
		for n := range order {
			order[n] = 9
		}
	}
}

// spoil writes into all rows of all graphs, with what stands behind their lengths, and looks whether any other row changes.
func spoil(t *testing.T, e isolate.Edges) {
	t.Helper()
	var rows [][]bool
	for _, g := range []graph.Graph{e.Over, e.Seen, e.Anew} {
		rows = append(rows, g...)
	}
	for _, row := range rows {
		clear(row[:cap(row)])
	}
	for n, row := range rows {
		row = row[:cap(row)]
		if slices.Contains(row, true) {
			t.Fatalf("row %d shares memory with one ahead", n)
		}
		for k := range row {
			row[k] = true
		}
	}
}
