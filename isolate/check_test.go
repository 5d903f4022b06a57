package isolate_test

import (
	"math"
	"slices"
	"strconv"
	"strings"
	"testing"

	"testimony/api"
	"testimony/isolate"
)

// story is that of a text: transactions apart by ';': w0 writes key 0, r0 reads what was there at first, r0:1 version 0 that transaction 1 wrote, r0:1.2 its version 2, c commits.
// Behind '|' stand lists of keys: 0:2,1. A key of which none stands there has those that commit and write it, rising.
func story(text string) isolate.Story {
	s := isolate.Story{Order: make([][]int, api.MaxKeys)}
	txs, lists, _ := strings.Cut(text, "|")
	if strings.TrimSpace(txs) != "" {
		for _, part := range strings.Split(txs, ";") {
			s.Txs = append(s.Txs, txOf(part))
		}
	}
	for tx := range s.Txs {
		for key := range s.Order {
			if s.Txs[tx].Commits && slices.Contains(s.Txs[tx].Ops, write(key)) {
				s.Order[key] = append(s.Order[key], tx)
			}
		}
	}
	for _, word := range strings.Fields(lists) {
		key, list, _ := strings.Cut(word, ":")
		s.Order[number(key)] = row(list)
	}
	return s
}

func txOf(text string) isolate.Tx {
	var tx isolate.Tx
	for _, word := range strings.Fields(text) {
		if word == "c" {
			tx.Commits = true
			continue
		}
		key, from, written := strings.Cut(word[1:], ":")
		op := isolate.Op{Write: word[0] == 'w', Key: number(key)}
		if written {
			from, version, _ := strings.Cut(from, ".")
			op.From, op.Number = number(from), number(version)
		} else if !op.Write {
			op.From = -1
		}
		tx.Ops = append(tx.Ops, op)
	}
	return tx
}

func write(key int) isolate.Op { return isolate.Op{Write: true, Key: key} }

// number is that of a text, 0 of one without.
func number(text string) int {
	n, _ := strconv.Atoi(text)
	return n
}

// row is the list of a text: 2,1.
func row(text string) []int {
	var l []int
	for _, word := range strings.FieldsFunc(text, func(r rune) bool { return r == ',' }) {
		l = append(l, number(word))
	}
	return l
}

// checkFault asks whether all tell want, without a place, and nothing beside it.
func checkFault(t *testing.T, name string, s isolate.Story, want api.Errno) {
	t.Helper()
	tell := func(face string, empty bool, err error) {
		t.Helper()
		if !empty || err != error(want) {
			t.Errorf("%s: %s tells %v (%#v), nothing beside it: %v; not %v", name, face, err, err, empty, want)
		}
	}
	tell("Check", true, isolate.Check(s))
	e, err := isolate.All(s)
	tell("All", e.Over == nil && e.Seen == nil && e.Anew == nil, err)
	finds, err := isolate.Finds(s)
	tell("Finds", finds == nil, err)
	level, err := isolate.Level(s)
	tell("Level", level == 0, err)
	order, err := isolate.Serial(s)
	tell("Serial", order == nil, err)
}

func checkFaults(t *testing.T, want api.Errno, texts ...string) {
	t.Helper()
	for _, text := range texts {
		checkFault(t, text, story(text), want)
	}
}

// checkFine asks whether none tells an error, but Serial ErrCycle.
func checkFine(t *testing.T, name string, s isolate.Story) {
	t.Helper()
	err := isolate.Check(s)
	_, all := isolate.All(s)
	_, finds := isolate.Finds(s)
	_, level := isolate.Level(s)
	_, order := isolate.Serial(s)
	if err != nil || all != nil || finds != nil || level != nil || order != nil && order != error(api.ErrCycle) {
		t.Errorf("%s: %v, %v, %v, %v, %v", name, err, all, finds, level, order)
	}
}

// The names' numbers are told by the document.
func TestNames(t *testing.T) {
	names := []int{isolate.Dirty, isolate.Aborted, isolate.Between, isolate.Round, isolate.Single, isolate.Any}
	if !slices.Equal(names, []int{0, 1, 2, 3, 4, 5}) {
		t.Error(names)
	}
}

// 12.1: what may be.
func TestCheckFine(t *testing.T) {
	for _, text := range []string{
		"", "c", "c; c", "w0", "w0 c", "w7 c", "r0", "r7 c", "w0 w0 w0 c",
		"w0 r0:0 c", "r0:0 w0 c", "r0:0.1 w0 w0 c", "w0 w0 r0:0 r0:0.1", "w0 r0 c",
		"w0 c; r0:0 c", "r0:1 c; w0 c", "w0; r0:0 c", "r0:1 c; w0", "w7 w7 c; r7:0.1 r7:0 r7 c",
		"w0 c; w0 c | 0:1,0", "w0 c; w0; w0 c | 0:2,0", "w0 w0 c; w0 w1 c | 0:1,0", "w0; w0 |", "w0 w1 w2 c; w2 w1 w0 c | 0:1,0 2:1,0",
		"w0 c; w0 c; w0 c; w0 c; w0 c; w0 c; w0 c; w0 c | 0:7,6,5,4,3,2,1,0", "r0:7 c;;;;;;; w0", "; c; w3 ; w3 c | 3:3",
	} {
		checkFine(t, text, story(text))
	}
	s := story("w0 c")
	s.Txs[0].Ops = append(s.Txs[0].Ops, slices.Repeat(txOf("r0:0").Ops, api.MaxSteps-1)...)
	checkFine(t, "as many ops as may be", s)
	s.Txs = slices.Repeat(s.Txs, api.MaxTx)
	s.Order[0] = row("7,0,6,1,5,2,4,3")
	checkFine(t, "as many of as many transactions", s)
	s = isolate.Story{Txs: []isolate.Tx{{Ops: slices.Repeat([]isolate.Op{write(7)}, api.MaxSteps), Commits: true}, txOf("r7:0.59 r7:0 c")}, Order: make([][]int, api.MaxKeys)}
	s.Order[7] = row("0")
	checkFine(t, "the last of as many versions as may be", s)
	s.Txs[1].Ops[0].Number = api.MaxSteps
	checkFault(t, "one behind it", s, api.ErrMissing)
}

// 12.1: ErrLimit: more than MaxTx transactions, ahead of all else.
func TestCheckManyTxs(t *testing.T) {
	checkFaults(t, api.ErrLimit, ";;;;;;;;", "c;c;c;c;c;c;c;c;c", "w8;;;;;;;;", ";;;;;;;; | 0:9", ";;;;;;;; r0:20 c")
	s := isolate.Story{Txs: make([]isolate.Tx, api.MaxTx+1)}
	checkFault(t, "no lists", s, api.ErrLimit)
	s.Txs = make([]isolate.Tx, 1000)
	checkFault(t, "far more", s, api.ErrLimit)
	s.Txs = s.Txs[:api.MaxTx]
	checkFault(t, "just as many", s, api.ErrForm)
	s.Order = make([][]int, api.MaxKeys)
	checkFine(t, "just as many, and lists", s)
}

// 12.1: ErrForm: Order has not MaxKeys lists, ahead of what is wrong with ops and lists.
func TestCheckLists(t *testing.T) {
	long := slices.Repeat([]isolate.Op{write(0)}, api.MaxSteps+1)
	for _, lists := range []int{0, 1, api.MaxKeys - 1, api.MaxKeys + 1, 1000} {
		s := isolate.Story{Order: make([][]int, lists)}
		checkFault(t, "no transactions", s, api.ErrForm)
		for _, text := range []string{"c", "w8", "w0:1", "r0:0", "w0 c"} {
			s.Txs = story(text).Txs
			checkFault(t, text, s, api.ErrForm)
		}
		s.Txs = []isolate.Tx{{Ops: long}}
		checkFault(t, "too many ops", s, api.ErrForm)
		if lists > 0 {
			s.Txs, s.Order[0] = nil, row("0")
			checkFault(t, "no transaction in a list", s, api.ErrForm)
		}
	}
	checkFault(t, "nothing", isolate.Story{}, api.ErrForm)
}

// 12.1: ErrLimit: more than MaxSteps ops of one transaction, ahead of what its ops are, behind those of one ahead.
func TestCheckManyOps(t *testing.T) {
	for _, op := range []isolate.Op{write(0), write(8), {From: -1}, {From: 9}, {Number: 3}} {
		s := story("r0; c; r1 | 0:5")
		s.Txs[1].Ops = slices.Repeat([]isolate.Op{op}, api.MaxSteps+1)
		checkFault(t, "one more", s, api.ErrLimit)
		s.Txs[1].Ops = slices.Repeat([]isolate.Op{op}, 5000)
		checkFault(t, "far more", s, api.ErrLimit)
		s.Txs[2].Ops[0].Key = 8
		checkFault(t, "one behind is wrong", s, api.ErrLimit)
		s.Txs[0].Ops[0].Key = 8
		checkFault(t, "one ahead is wrong", s, api.ErrRange)
		s.Txs[0].Ops[0] = isolate.Op{Write: true, From: 1}
		checkFault(t, "one ahead is wrong", s, api.ErrArg)
		s.Txs[0].Ops[0] = isolate.Op{From: 2}
		checkFault(t, "one ahead is wrong", s, api.ErrMissing)
	}
}

// 12.1: ErrRange of an op, ahead of what else is wrong with it.
func TestCheckRange(t *testing.T) {
	for _, op := range []isolate.Op{
		{Write: true, Key: -1}, {Write: true, Key: api.MaxKeys}, {Write: true, Key: math.MaxInt}, {Write: true, Key: math.MinInt},
		{Key: -1, From: -1}, {Key: api.MaxKeys, From: -1}, {Key: math.MinInt}, {Key: math.MaxInt, From: 1},
		{From: -2}, {From: 2}, {From: math.MaxInt}, {From: math.MinInt}, {From: api.MaxTx}, {From: api.MaxTx - 1},
		{Write: true, From: -2}, {Write: true, From: 2}, {Write: true, From: math.MinInt}, {Write: true, From: math.MaxInt},
		{Number: -1}, {Number: math.MinInt}, {From: -1, Number: -1}, {Write: true, Number: -1}, {Write: true, From: 1, Number: -1},
		{Key: 8, From: -1, Number: 1}, {Key: -1, Number: 5}, {From: 2, Number: 7}, {Write: true, Key: 8, From: 1},
	} {
		for _, commits := range []bool{true, false} {
			s := story("w0 c; c")
			s.Txs[1] = isolate.Tx{Ops: []isolate.Op{op}, Commits: commits}
			checkFault(t, "alone", s, api.ErrRange)
			s.Txs[1].Ops = append(txOf("w0 r0:0 r1").Ops, op)
			checkFault(t, "behind others", s, api.ErrRange)
			s.Txs[1].Ops = append([]isolate.Op{op}, txOf("w0:1 r0:0.5 w8").Ops...)
			checkFault(t, "ahead of others", s, api.ErrRange)
		}
	}
	checkFaults(t, api.ErrRange, "r0:1 c", "r0:7 c;;;;;; w0 c", "w0 c; r0:2 c")
}

// 12.1: ErrArg: a Write whose From or Number is not 0, or a Number of what was there at first.
func TestCheckArg(t *testing.T) {
	checkFaults(t, api.ErrArg,
		"w0:-1 c", "w0:1 c; c", "w0:0.1 c", "w0 w0:0.1 c", "w0; w0; w7:1", "w0 c; w0:-1.1 c", "w0:0.9223372036854775807 c",
		"r0:-1.1 c", "w0 w0 c; r0:-1.1", "r7:-1.9223372036854775807",
		"w0:1 r0:0.7 c; c", "w0 c; w0:1 c; r0:0.7 c", "w0:1 w8 c; c", "r0:-1.1 c; w8 c",
	)
}

// 12.1: ErrMissing: From has not more than Number writes of that key.
func TestCheckMissing(t *testing.T) {
	checkFaults(t, api.ErrMissing,
		"r0:0 c", "r0:0", "w0 r0:0.1 c", "w1 r0:0 c", "w0 r1:0", "w0 w0 r0:0.2 c", "w0 w1 r0:0.1 c", "w0 w1 r1:0.1 c",
		"c; r0:0 c", "r0:1 c; c", "w0 c; r0:1 c", "w0 c; w0 r0:0.1 c", "w0 c; w0 w0 r0:0.1 c", "w0; r0:0.1", "w7; r7:0.9223372036854775807 c",
		"r0 c; w0 r0:0 c", "r0:1 r0:1 c; r0", "r0:1 c; w8", "r1:0 w0:1 c; c", "r0:0 c; w8 c", "r0:0 | 0:9",
	)
	// A Write that is wrong is one all the same: it is wrong, not missing.
	checkFaults(t, api.ErrArg, "r0:0 w0:1 c; c", "r0:1 c; w0:1 c")
	checkFaults(t, api.ErrRange, "r0:1 c; w0:2 c")
}

// 12.1: op by op, each wholly ahead of the next one.
func TestCheckOpByOp(t *testing.T) {
	wrong := []struct {
		op  string
		err api.Errno
	}{{"w8", api.ErrRange}, {"w0:1", api.ErrArg}, {"r1:0", api.ErrMissing}}
	for _, a := range wrong {
		for _, b := range wrong {
			checkFaults(t, a.err, "w0 "+a.op+" "+b.op+" c; w0 c", "w0 "+a.op+" c; "+b.op+" c", a.op+"; "+b.op+" | 0:9", "; "+a.op+" | 0:9")
		}
	}
}

// 12.1: ErrRange of a list: no transaction.
func TestCheckListRange(t *testing.T) {
	checkFaults(t, api.ErrRange,
		"| 0:0", "| 7:-1", "c | 0:1", "c | 0:-1", "w0 c | 0:0,1", "w0 c | 0:-1,0", "w0 c | 7:9223372036854775807", "w0 c | 7:-9223372036854775808",
		"w0 c; w0 c | 0:2", "w0 c; w0 c | 0:1,0,2", "w0 c | 0:1,0,0", "w0 c | 0:-1,-1", "c | 3:8",
	)
}

// 12.1: ErrNone: one that does not commit, or does not write the key.
func TestCheckListNone(t *testing.T) {
	checkFaults(t, api.ErrNone,
		"c | 0:0", "w0 | 0:0", "w0 c | 1:0", "r0 c | 0:0", "w0 r1 c | 1:0", "w0 c; r0:0 c | 0:0,1", "w0 c; w0 | 0:0,1", "w0 c; w0 | 0:1,0",
		"w0 c; c | 0:1,0", "w0 c; c | 0:1", "w0 c; c | 0:0,1,1", "c | 0:0,0", "w7 c | 6:0", "w0 c; c | 0:0,1,9",
	)
}

// 12.1: ErrTwice: it stands ahead.
func TestCheckListTwice(t *testing.T) {
	checkFaults(t, api.ErrTwice,
		"w0 c | 0:0,0", "w0 w0 c | 0:0,0", "w0 c; w0 c | 0:0,0", "w0 c; w0 c | 0:1,0,1", "w0 c; w0 c; w0 c | 0:2,1,0,2", "w7 c; w7 c | 7:1,1",
		"w0 c | 0:0,0,1", "w0 c; c | 0:0,0,1", "w0 c; w0 c | 0:1,1,-1",
	)
}

// 12.1: ErrForm: one that commits and writes the key is missing.
func TestCheckListShort(t *testing.T) {
	checkFaults(t, api.ErrForm,
		"w0 c | 0:", "w7 c | 7:", "w0 c; w0 c | 0:0", "w0 c; w0 c | 0:1", "w0 c; w0 c | 0:", "w0 c; w0; w0 c | 0:2", "w0 w1 c | 1:", "w0 w0 c; w0 c | 0:0",
	)
}

// 12.1: key by key, one by one, each wholly ahead of the next one.
func TestCheckKeyByKey(t *testing.T) {
	wrong := []struct {
		list string
		err  api.Errno
	}{{"0,9", api.ErrRange}, {"0,2", api.ErrNone}, {"0,0", api.ErrTwice}, {"0", api.ErrForm}}
	for _, a := range wrong {
		checkFaults(t, a.err, "w0 w7 c; w0 w7 c; w0 w7 | 0:"+a.list, "w0 w7 c; w0 w7 c; w0 w7 | 7:"+a.list)
		for _, b := range wrong {
			checkFaults(t, a.err, "w0 w7 c; w0 w7 c; w0 w7 | 0:"+a.list+" 7:"+b.list, "w3 w4 c; w3 w4 c; w3 w4 | 3:"+a.list+" 4:"+b.list)
			if a.err != api.ErrForm {
				_, last, _ := strings.Cut(b.list, ",")
				checkFaults(t, a.err, "w0 c; w0 c; w0 | 0:"+a.list+","+last)
			}
		}
	}
}
