package mvcc

import (
	"testimony/api"
	"testimony/isolate"
)

// never is the time of what did not take place: ahead of all times.
const never = -1

// deal is a transaction on its way: what it did, when it began and committed, and whether it is over.
type deal struct {
	ops           []isolate.Op
	begin, commit int
	over          bool
}

// writes is how many versions of a key it wrote.
func (d *deal) writes(key int) int {
	count := 0
	for _, op := range d.ops {
		if op.Write && op.Key == key {
			count++
		}
	}
	return count
}

// meets says whether each of two commits behind the other's begin. One that does not commit does so behind nothing, as never is ahead of all.
func (d *deal) meets(other *deal) bool {
	return d.commit > other.begin && other.commit > d.begin
}

// check says whether something may be asked now.
func (b *Base) check(a Ask) error {
	switch {
	case b == nil, a.Tx < 0 || a.Tx >= len(b.deals), a.Key < 0 || a.Key >= api.MaxKeys:
		return api.ErrRange
	case a.Kind < Begin || a.Kind > Abort, a.Key != 0 && !isStep(a.Kind):
		return api.ErrArg
	}
	return b.deals[a.Tx].check(a.Kind)
}

// check says whether a transaction may do something of that kind now.
func (d *deal) check(kind int) error {
	begun := d.begin != never
	switch {
	case d.over, kind == Begin && begun, kind != Begin && !begun:
		return api.ErrState
	case isStep(kind) && len(d.ops) >= api.MaxSteps:
		return api.ErrLimit
	}
	return nil
}

// isStep says whether a kind is one that has a key.
func isStep(kind int) bool { return kind == Read || kind == Write }
