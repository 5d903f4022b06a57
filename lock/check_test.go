package lock_test

import (
	"math"
	"slices"
	"strconv"
	"strings"
	"testing"

	"testimony/api"
	"testimony/lock"
	"testimony/serial"
)

// plan is that of a text: transactions apart by ';': r0 reads key 0, w0 writes it.
func plan(text string) lock.Plan {
	var p lock.Plan
	if text == "" {
		return p
	}
	for tx, part := range strings.Split(text, ";") {
		var list []serial.Step
		for _, word := range strings.Fields(part) {
			key, _ := strconv.Atoi(word[1:])
			list = append(list, serial.Step{Tx: tx, Kind: strings.IndexByte(" rw", word[0]), Key: key})
		}
		p = append(p, list)
	}
	return p
}

// deepCopy is a plan of fresh lists.
func deepCopy(p lock.Plan) lock.Plan {
	c := slices.Clone(p)
	for tx := range c {
		c[tx] = slices.Clone(c[tx])
	}
	return c
}

// isEmpty says whether an outcome is the zero value.
func isEmpty(o lock.Outcome) bool { return o.Done == nil && o.Waits == nil && o.Victim == nil }

// checkFault asks whether both tell want, without a place, and nothing beside it; as many picks as there may be, and more, change nothing of it.
func checkFault(t *testing.T, name string, p lock.Plan, want api.Errno) {
	t.Helper()
	if err := lock.Check(p); err != error(want) {
		t.Errorf("%s: Check tells %v (%#v), not %v", name, err, err, want)
	}
	for _, picks := range []int{0, 1, 200, 201, 5000} {
		if o, err := lock.Play(p, make([]int, picks)); err != error(want) || !isEmpty(o) {
			t.Errorf("%s: Play tells %v beside %v, not %v", name, err, o, want)
		}
	}
}

// checkFine asks whether a plan may be.
func checkFine(t *testing.T, name string, p lock.Plan) {
	t.Helper()
	if err := lock.Check(p); err != nil {
		t.Errorf("%s: Check tells %v", name, err)
	}
	if _, err := lock.Play(p, nil); err != nil {
		t.Errorf("%s: Play tells %v", name, err)
	}
}

// 13.1: what may be.
func TestCheckFine(t *testing.T) {
	checkFine(t, "nothing", nil)
	for _, text := range []string{
		"r0", "w0", "r7 w7", ";", "; r0", "r0 r0 w0 w0; w0", ";;;;;;;", ";;;;;;; w7 r7", "r0;r1;r2;r3;r4;r5;r6;r7", "w7; ; w0 r1 w2 r3 w4 r5 w6 r7",
	} {
		checkFine(t, text, plan(text))
	}
	checkFine(t, "a list that is there, but empty", lock.Plan{{}})
}

// wrongSteps are steps that may not stand in the list of that transaction.
func wrongSteps(tx int) []serial.Step {
	return []serial.Step{
		{Tx: tx - 1, Kind: serial.Read}, {Tx: tx + 1, Kind: serial.Write}, {Tx: -1, Kind: serial.Read}, {Tx: api.MaxTx + 1, Kind: serial.Write}, {Tx: math.MaxInt, Kind: serial.Read}, {Tx: math.MinInt, Kind: serial.Read},
		{Tx: tx}, {Tx: tx, Kind: -1}, {Tx: tx, Kind: serial.Commit}, {Tx: tx, Kind: serial.Abort}, {Tx: tx, Kind: 5}, {Tx: tx, Kind: math.MaxInt}, {Tx: tx, Kind: math.MinInt},
		{Tx: tx, Kind: serial.Read, Key: -1}, {Tx: tx, Kind: serial.Write, Key: -1}, {Tx: tx, Kind: serial.Read, Key: api.MaxKeys}, {Tx: tx, Kind: serial.Write, Key: api.MaxKeys},
		{Tx: tx, Kind: serial.Read, Key: math.MaxInt}, {Tx: tx, Kind: serial.Write, Key: math.MinInt},
		{Tx: tx + 1, Kind: 7, Key: -7}, {Tx: tx, Kind: serial.Commit, Key: api.MaxKeys},
	}
}

// 13.1: ErrArg, wherever the step stands.
func TestCheckArg(t *testing.T) {
	for _, tx := range []int{0, 1, 3, 7} {
		for _, wrong := range wrongSteps(tx) {
			own := serial.Step{Tx: tx, Kind: serial.Write, Key: 7}
			for _, list := range [][]serial.Step{{wrong}, {wrong, own}, {own, own, wrong}, {own, wrong, own}} {
				p := plan("r0 w1;;r2 w3;;;;w7;")
				p[tx] = list
				checkFault(t, "a wrong step", p, api.ErrArg)
			}
		}
	}
	checkFault(t, "the list of another one", lock.Plan{plan("; r0")[1]}, api.ErrArg)
	checkFault(t, "one list twice", slices.Concat(plan("r0"), plan("r0")), api.ErrArg)
}

// 13.1: ErrLimit: more than MaxTx lists, empty ones, too.
func TestCheckManyLists(t *testing.T) {
	checkFine(t, "just as many", make(lock.Plan, api.MaxTx))
	checkFault(t, "one more", make(lock.Plan, api.MaxTx+1), api.ErrLimit)
	checkFault(t, "far more", make(lock.Plan, 1000), api.ErrLimit)
	checkFault(t, "steps in one that is too many", plan(";;;;;;;; r0"), api.ErrLimit)
}

// 13.1: ErrLimit: more than MaxSteps steps and lists together.
func TestCheckManySteps(t *testing.T) {
	one := func(tx, steps int) []serial.Step {
		return slices.Repeat([]serial.Step{{Tx: tx, Kind: serial.Read, Key: tx}}, steps)
	}
	checkFine(t, "one list", lock.Plan{one(0, api.MaxSteps-1)})
	checkFault(t, "one list, one more", lock.Plan{one(0, api.MaxSteps)}, api.ErrLimit)
	checkFault(t, "one list, far more", lock.Plan{one(0, 100_000)}, api.ErrLimit)
	checkFine(t, "two lists", lock.Plan{one(0, 29), one(1, 29)})
	checkFault(t, "two lists, one more", lock.Plan{one(0, 29), one(1, 30)}, api.ErrLimit)
	p := make(lock.Plan, api.MaxTx)
	p[7] = one(7, api.MaxSteps-api.MaxTx)
	checkFine(t, "all lists", p)
	p[0] = one(0, 1)
	checkFault(t, "all lists, one more", p, api.ErrLimit)
	p[7] = p[7][1:]
	checkFine(t, "all lists, one less there", p)
}

// 13.1: ErrArg of any step is told ahead of ErrLimit.
func TestCheckArgFirst(t *testing.T) {
	for _, wrong := range wrongSteps(8) {
		p := make(lock.Plan, api.MaxTx+1)
		p[8] = []serial.Step{wrong}
		checkFault(t, "more lists than may be", p, api.ErrArg)
	}
	for _, wrong := range wrongSteps(0) {
		own := slices.Repeat([]serial.Step{{Kind: serial.Write}}, api.MaxSteps+40)
		checkFault(t, "first of too many steps", lock.Plan{append([]serial.Step{wrong}, own...)}, api.ErrArg)
		checkFault(t, "last of too many steps", lock.Plan{append(own, wrong)}, api.ErrArg)
	}
}

// 13.2: ErrLimit: more than 200 picks, whatever they are.
func TestManyPicks(t *testing.T) {
	for _, p := range []lock.Plan{nil, plan("r0; w0"), plan(";;;;;;;")} {
		for _, pick := range []int{0, 1, -1, 9} {
			if _, err := lock.Play(p, slices.Repeat([]int{pick}, 200)); err != nil {
				t.Errorf("just as many: %v", err)
			}
			for _, picks := range []int{201, 10_000} {
				if o, err := lock.Play(p, slices.Repeat([]int{pick}, picks)); err != error(api.ErrLimit) || !isEmpty(o) {
					t.Errorf("%d picks: %v, %v", picks, o, err)
				}
			}
		}
	}
}
