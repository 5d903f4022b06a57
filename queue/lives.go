package queue

import (
	"cmp"
	"slices"

	"testimony/api"
	"testimony/event"
)

// none stands for the number of an op that there isn't.
const none = -1

// life is what became of a value: the numbers of its push, of its first pop, and of its second one.
type life struct{ push, pop, again int }

// lives are those of all values that are pushed or popped.
type lives map[int]life

// pair is two ops' numbers.
type pair struct{ a, b int }

func livesOf(ops []api.Op) lives {
	all := lives{}
	for n, op := range ops {
		value := op.A
		if op.Kind == api.Pop {
			value = op.Result
		}
		l, known := all[value]
		if !known {
			l = life{push: none, pop: none, again: none}
		}
		all[value] = l.with(n, op.Kind)
	}
	return all
}

// with is the life with one more op of that number and kind.
func (l life) with(number, kind int) life {
	switch {
	case kind == api.Push:
		l.push = number
	case l.pop == none:
		l.pop = number
	case l.again == none:
		l.again = number
	}
	return l
}

// pairs are all that can't be by that code, in no order; those of a code hold only where there are none of the codes ahead of it.
func (all lives) pairs(code int, ops []api.Op) []pair {
	var pairs []pair
	for _, l := range all {
		switch code {
		case Thin:
			if l.push == none {
				pairs = append(pairs, pair{l.pop, l.pop})
			}
		case Twice:
			if l.again != none {
				pairs = append(pairs, pair{l.pop, l.again})
			}
		case Early:
			if l.isEarly(ops) {
				pairs = append(pairs, pair{l.push, l.pop})
			}
		case Crossed:
			pairs = append(pairs, all.crossedBy(l, ops)...)
		}
	}
	return pairs
}

func (l life) isEarly(ops []api.Op) bool {
	return l.pop != none && event.Before(ops[l.pop], ops[l.push])
}

// crossedBy are the pairs whose first push is that of l.
func (all lives) crossedBy(l life, ops []api.Op) []pair {
	var pairs []pair
	for _, other := range all {
		if l.isCrossed(other, ops) {
			pairs = append(pairs, pair{l.push, other.push})
		}
	}
	return pairs
}

// isCrossed says whether the other value was pushed behind that of l, but came out ahead of it.
func (l life) isCrossed(other life, ops []api.Op) bool {
	if other.pop == none || !event.Before(ops[l.push], ops[other.push]) {
		return false
	}
	return l.pop == none || event.Before(ops[other.pop], ops[l.pop])
}

// least is the pair with the least first number, of these with the least second one.
func least(pairs []pair) pair {
	return slices.MinFunc(pairs, func(p, q pair) int {
		return cmp.Or(cmp.Compare(p.a, q.a), cmp.Compare(p.b, q.b))
	})
}
