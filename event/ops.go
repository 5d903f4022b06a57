package event

import (
	"cmp"
	"slices"

	"testimony/api"
)

// Ops are what was done, in order of their calls: those that failed did not take place, those that are not known (or never came to an end) have Return -1. An error behind ErrLimit is an At at the event's number: a process begins while it is at something (ErrState), or behind what is not known; ends what it did not begin (ErrOld).
func Ops(l []Event) ([]api.Op, error) {
	if len(l) > api.MaxEvents {
		return nil, api.ErrLimit
	}
	h := history{at: map[int]api.Op{}}
	for i, e := range l {
		if n := h.see(i, e); n != api.OK {
			return nil, &api.At{Err: n, Place: i}
		}
	}
	return h.ops(), nil
}

// history is what the events so far tell.
type history struct {
	at   map[int]api.Op     // what each process is at
	lost [api.MaxProcs]bool // those behind an Info of their own
	done []api.Op           // what is over, in order of its end
}

// see takes the next event, of that number.
func (h *history) see(number int, e Event) api.Errno {
	if n := fault(e); n != api.OK {
		return n
	}
	if e.Type == Invoke {
		return h.begin(number, e)
	}
	return h.end(number, e)
}

func (h *history) begin(number int, e Event) api.Errno {
	if _, busy := h.at[e.Proc]; busy || h.lost[e.Proc] {
		return api.ErrState
	}
	h.at[e.Proc] = api.Op{Proc: e.Proc, Key: e.Key, Kind: e.Kind, A: e.A, B: e.B, Call: number, Return: -1}
	return api.OK
}

func (h *history) end(number int, e Event) api.Errno {
	op, busy := h.at[e.Proc]
	if !busy || op.Key != e.Key || op.Kind != e.Kind || op.A != e.A || op.B != e.B {
		return api.ErrOld
	}
	delete(h.at, e.Proc)
	switch e.Type {
	case Ok:
		op.Result, op.Return = e.Result, number
		h.done = append(h.done, op)
	case Info:
		h.lost[e.Proc] = true
		h.done = append(h.done, op)
	}
	return api.OK
}

// ops are those that are over, and those that have no end.
func (h *history) ops() []api.Op {
	l := h.done
	for _, op := range h.at {
		l = append(l, op)
	}
	slices.SortFunc(l, func(a, b api.Op) int { return cmp.Compare(a.Call, b.Call) })
	return l
}

// Before says whether one was at its end ahead of another one's call.
func Before(a, b api.Op) bool { return a.Return >= 0 && a.Return < b.Call }

// CheckOps says whether a list of ops may be what Ops tells: processes and keys there are, kinds, calls rising and not below 0, each Return behind its Call, or -1 (then no Result, and the process begins no more); none of a process begins ahead of the end of its one ahead; no two times the same.
func CheckOps(l []api.Op) error {
	if len(l) > api.MaxOps {
		return api.ErrLimit
	}
	for i, op := range l {
		if n := opFault(l[:i], op); n != api.OK {
			return n
		}
	}
	return nil
}

// opFault is what is wrong with an op behind those ahead of it.
func opFault(ahead []api.Op, op api.Op) api.Errno {
	switch {
	case !inBounds(op.Proc, op.Key, op.A, op.B, op.Result) || !isNumber(op.Call) || !isNumber(op.Return):
		return api.ErrRange
	case !isKind(op.Kind):
		return api.ErrArg
	case !inOrder(ahead, op):
		return api.ErrOrder
	case slices.ContainsFunc(ahead, func(o api.Op) bool { return shareTime(o, op) }):
		return api.ErrTwice
	case slices.ContainsFunc(ahead, func(o api.Op) bool { return o.Proc == op.Proc && !Before(o, op) }):
		return api.ErrState
	}
	return api.OK
}

// inOrder says whether an op's times fit each other, and its call that of the op ahead.
func inOrder(ahead []api.Op, op api.Op) bool {
	if op.Call < 0 || len(ahead) > 0 && op.Call <= ahead[len(ahead)-1].Call {
		return false
	}
	if op.Return == -1 {
		return op.Result == 0
	}
	return op.Return > op.Call
}

// shareTime says whether a time of b's is one of a's.
func shareTime(a, b api.Op) bool {
	return hasTime(a, b.Call) || b.Return != -1 && hasTime(a, b.Return)
}

func hasTime(op api.Op, time int) bool { return op.Call == time || op.Return == time }
