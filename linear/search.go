package linear

import (
	"strconv"

	"testimony/api"
	"testimony/model"
)

// search is the one of Wing and Gong: from state to state, the first op that can be done ahead.
type search struct {
	object  int
	ops     []api.Op
	budget  int
	ahead   func(a, b api.Op) bool // whether a must be done ahead of b
	waits   []uint64               // of each op: those that must be done ahead of it
	must    uint64                 // those without which it is not over
	entered map[string]struct{}    // the states, by name
	at      state
	order   []int  // the ops that led there
	name    []byte // room in which states are named, so that those entered ahead take none of their own
}

// state is one of the search: which ops are done, and what the object of each key is.
type state struct {
	done    uint64
	objects [api.MaxKeys][]int
}

// verdict is what comes of the search from the first state on.
func (s *search) verdict() Verdict {
	s.waits, s.must = s.allWaits(), ended(s.ops)
	for key := range s.at.objects {
		s.at.objects[key] = model.Start(s.object)
	}
	v := Verdict{Code: s.visit(), Entered: len(s.entered)}
	if v.Code == Valid {
		v.Order = s.order
	}
	return v
}

// allWaits asks once of each two ops what the search would ask at each state.
func (s *search) allWaits() []uint64 {
	waits := make([]uint64, len(s.ops))
	for b := range s.ops {
		for a := range s.ops {
			if a != b && s.ahead(s.ops[a], s.ops[b]) {
				waits[b] |= bit(a)
			}
		}
	}
	return waits
}

// visit is what comes of the state that the search is at; Invalid: nothing does, and it goes on elsewhere.
func (s *search) visit() int {
	if covers(s.at.done, s.must) {
		return Valid
	}
	s.name = s.at.appendName(s.name[:0])
	if _, again := s.entered[string(s.name)]; again {
		return Invalid
	}
	if len(s.entered) == s.budget {
		return Unknown
	}
	s.entered[string(s.name)] = struct{}{}
	for n, op := range s.ops {
		next, ok := s.step(n)
		if !ok {
			continue
		}
		was := s.at.objects[op.Key]
		s.do(n, next)
		if code := s.visit(); code != Invalid {
			return code
		}
		s.undo(n, was)
	}
	return Invalid
}

// step is what an op makes of its key's object, if it can be done next and was told what it would be.
func (s *search) step(n int) ([]int, bool) {
	if has(s.at.done, n) || !covers(s.at.done, s.waits[n]) {
		return nil, false
	}
	op := s.ops[n]
	next, result, ok := model.Step(s.object, s.at.objects[op.Key], op.Kind, op.A, op.B)
	return next, ok && (op.Return < 0 || op.Result == result)
}

func (s *search) do(n int, next []int) {
	s.at.done |= bit(n)
	s.at.objects[s.ops[n].Key] = next
	s.order = append(s.order, n)
}

// undo takes back the op that was done last; its key's object is again what it was.
func (s *search) undo(n int, was []int) {
	s.at.done &^= bit(n)
	s.at.objects[s.ops[n].Key] = was
	s.order = s.order[:len(s.order)-1]
}

// appendName adds a text that no other state has: each number and each key has an end of its own.
func (at *state) appendName(name []byte) []byte {
	name = strconv.AppendUint(name, at.done, 36)
	for _, object := range at.objects {
		name = append(name, ';')
		for _, number := range object {
			name = strconv.AppendInt(name, int64(number), 36)
			name = append(name, ',')
		}
	}
	return name
}
