package mvcc

import (
	"iter"
	"slices"

	"testimony/api"
	"testimony/isolate"
)

// nobody stands for who wrote what was there at first.
const nobody = -1

// last is the read of the last version of a key that a transaction wrote.
func (b *Base) last(tx, key int) isolate.Op {
	return isolate.Op{Key: key, From: tx, Number: b.deals[tx].writes(key) - 1}
}

// versions are those of a key that were committed, from the last one on: when that was, and the read of it.
func (b *Base) versions(key int) iter.Seq2[int, isolate.Op] {
	return func(yield func(time int, read isolate.Op) bool) {
		for _, tx := range slices.Backward(b.order[key]) {
			if !yield(b.deals[tx].commit, b.last(tx, key)) {
				return
			}
		}
	}
}

// find is what a transaction reads of a key: its own version, or what was committed last ahead of its begin.
func (b *Base) find(tx, key int) isolate.Op {
	d := &b.deals[tx]
	if d.writes(key) > 0 {
		return b.last(tx, key)
	}
	for time, read := range b.versions(key) {
		if time < d.begin {
			return read
		}
	}
	return isolate.Op{Key: key, From: nobody}
}

// end lets a transaction be over, and commit if it may.
func (b *Base) end(tx int) error {
	d := &b.deals[tx]
	d.over = true
	if b.isLate(tx) {
		return api.ErrOld
	}
	// Who points at whom is told of those that committed: it stands among them while that is looked at.
	d.commit = b.time
	if b.careful && b.hasPivot(tx) {
		d.commit = never
		return api.ErrOld
	}
	for key := range b.order {
		if d.writes(key) > 0 {
			b.order[key] = append(b.order[key], tx)
		}
	}
	return nil
}

// isLate says whether one that committed behind a transaction's begin wrote a key that it wrote.
func (b *Base) isLate(tx int) bool {
	d := &b.deals[tx]
	for key := range b.order {
		if d.writes(key) == 0 {
			continue
		}
		for time := range b.versions(key) {
			if time > d.begin {
				return true
			}
		}
	}
	return false
}

// hasPivot says whether a transaction, or one that it points at or that points at it, is a pivot.
func (b *Base) hasPivot(tx int) bool {
	for other := range b.deals {
		near := other == tx || b.pointsAt(tx, other) || b.pointsAt(other, tx)
		if near && b.isPivot(other) {
			return true
		}
	}
	return false
}

// isPivot says whether a transaction both points at one and is pointed at.
func (b *Base) isPivot(tx int) bool {
	points, pointed := false, false
	for other := range b.deals {
		points = points || b.pointsAt(tx, other)
		pointed = pointed || b.pointsAt(other, tx)
	}
	return points && pointed
}

// pointsAt says whether a transaction reads, from others, what another one writes beside it: it may have read what the other one made anew.
func (b *Base) pointsAt(tx, other int) bool {
	d, e := &b.deals[tx], &b.deals[other]
	return tx != other && d.meets(e) && slices.ContainsFunc(d.ops, func(op isolate.Op) bool {
		return !op.Write && op.From != tx && e.writes(op.Key) > 0
	})
}
