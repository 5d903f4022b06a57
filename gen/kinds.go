package gen

import (
	"slices"
)

// read always gives one of its key.
type read struct{ key int }

func (r read) Next(*Tape) (Call, bool) { return Call{Key: r.key}, true }

// write always gives one of its key, with a value from low to top.
type write struct{ key, low, top int }

func (w write) Next(tape *Tape) (Call, bool) {
	return Call{Write: true, Key: w.key, Value: w.low + tape.Below(w.top-w.low+1)}, true
}

// limit gives what another one does, so many times at most.
type limit struct {
	Gen
	left int
}

func (l *limit) Next(tape *Tape) (Call, bool) {
	if l.left == 0 {
		return Call{}, false
	}
	l.left--
	return l.Gen.Next(tape)
}

// mix asks the one that the tape tells, of those that have more.
type mix struct{ parts []Gen }

func (m *mix) Next(tape *Tape) (Call, bool) {
	for len(m.parts) > 0 {
		which := tape.Below(len(m.parts))
		if call, ok := m.parts[which].Next(tape); ok {
			return call, true
		}
		m.parts = slices.Delete(m.parts, which, which+1)
	}
	return Call{}, false
}

// then asks the first one, of those that have more.
type then struct{ parts []Gen }

func (t *then) Next(tape *Tape) (Call, bool) {
	for len(t.parts) > 0 {
		if call, ok := t.parts[0].Next(tape); ok {
			return call, true
		}
		t.parts = t.parts[1:]
	}
	return Call{}, false
}
