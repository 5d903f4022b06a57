package net

import (
	"slices"

	"testimony/api"
)

// Links are who can talk to whom.
type Links [][]bool

// draw is the links of n, of which each two can talk that the rule lets.
func draw(n int, rule func(a, b int) bool) (Links, error) {
	if n < 1 || n > api.MaxNodes {
		return nil, api.ErrLimit
	}
	l := make(Links, n)
	for a := range l {
		l[a] = make([]bool, n)
		for b := range l[a] {
			l[a][b] = rule(a, b)
		}
	}
	return l, nil
}

// Whole: all can talk to all.
func Whole(n int) (Links, error) {
	return draw(n, func(a, b int) bool { return true })
}

// sameHalf says whether two of n are both among the first n/2, or both among the rest.
func sameHalf(n, a, b int) bool { return (a < n/2) == (b < n/2) }

// Halves: the first n/2 with each other, and the rest.
func Halves(n int) (Links, error) {
	return draw(n, func(a, b int) bool { return sameHalf(n, a, b) })
}

// Bridge: likewise, but the one with the number n/2 with all.
func Bridge(n int) (Links, error) {
	return draw(n, func(a, b int) bool { return a == n/2 || b == n/2 || sameHalf(n, a, b) })
}

// Ring: each with those that are at most (n/2+1)/2 beside it, around.
func Ring(n int) (Links, error) {
	return draw(n, func(a, b int) bool {
		apart := max(a-b, b-a)
		return min(apart, n-apart) <= (n/2+1)/2
	})
}

// Alone: one with nobody, the others with each other.
func Alone(n, who int) (Links, error) {
	l, err := draw(n, func(a, b int) bool { return a == b || a != who && b != who })
	if err != nil {
		return nil, err
	}
	if who < 0 || who >= n {
		return nil, api.ErrRange
	}
	return l, nil
}

// Most says whether one talks to more than half of all (itself, too).
func (l Links) Most(who int) bool {
	if who < 0 || who >= len(l) {
		return false
	}
	count := 0
	for _, can := range l[who] {
		if can {
			count++
		}
	}
	return 2*count > len(l)
}

// let says whether one can talk to another one. Rows need not be as long as there are rows: who stands in none of them can't.
func (l Links) let(from, to int) bool {
	if l == nil {
		return true
	}
	return from >= 0 && from < len(l) && to >= 0 && to < len(l[from]) && l[from][to]
}

// copied has the same rows in memory of its own. Nil stays nil: links without a row let nobody talk, nil all.
func (l Links) copied() Links {
	if l == nil {
		return nil
	}
	rows := make(Links, len(l))
	for i, row := range l {
		rows[i] = slices.Clone(row)
	}
	return rows
}
