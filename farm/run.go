package farm

import (
	"testimony/api"
	"testimony/event"
	"testimony/gen"
	"testimony/linear"
	"testimony/net"
	"testimony/store"
)

const maxTape = 2000

// Run tries a plan as a tape tells; behind its end the net is whole, all messages come, and clients begin what there is.
func Run(p Plan, tape []int) (Report, error) {
	if len(tape) > maxTape || !isBudget(p.Budget) {
		return Report{}, api.ErrLimit
	}
	s, err := store.New(p.Setup)
	if err != nil {
		return Report{}, err
	}
	g, err := gen.Parse(p.Gen)
	if err != nil {
		return Report{}, err
	}
	t := trial{Plan: p, store: s, calls: g, tape: gen.Tape{Numbers: tape}}
	for t.tape.Used() < len(tape) {
		t.move()
	}
	t.finish()
	return t.report()
}

// trial is a plan that is tried.
type trial struct {
	Plan
	store *store.Store
	calls gen.Gen
	tape  gen.Tape
	begun int
	over  bool // the generator was asked, and had no more
}

// move does what the tape tells next. What can't be done then changes nothing, so that its error is dropped.
func (t *trial) move() {
	switch n := t.tape.Below(10); {
	case n < 3:
		t.begin(t.client())
	case n < 7:
		_ = t.store.Deliver(t.message())
	case n == 7:
		_ = t.store.Drop(t.message())
	case n == 8:
		_ = t.store.Double(t.message())
	default:
		t.trouble()
	}
}

func (t *trial) client() int { return t.tape.Below(t.Clients) }

func (t *trial) message() int { return t.tape.Below(t.store.Waiting()) }

// trouble parts the net as the tape tells, makes it whole, or lets a client give up.
func (t *trial) trouble() {
	switch t.tape.Below(6) {
	case 0:
		_ = t.store.Cut(nil)
	case 1:
		t.cut(net.Halves(t.Nodes))
	case 2:
		t.cut(net.Bridge(t.Nodes))
	case 3:
		t.cut(net.Ring(t.Nodes))
	case 4:
		t.cut(net.Alone(t.Nodes, t.tape.Below(t.Nodes)))
	default:
		_ = t.store.GiveUp(t.client())
	}
}

// cut parts the net by links. Without the look at the error no links would make it whole.
func (t *trial) cut(l net.Links, err error) {
	if err == nil {
		_ = t.store.Cut(l)
	}
}

// begin lets a client begin what the generator gives; it says whether it did.
func (t *trial) begin(client int) bool {
	if t.over || t.begun == api.MaxOps || t.store.Free(client) != nil {
		return false
	}
	call, ok := t.calls.Next(&t.tape)
	if !ok {
		t.over = true
		return false
	}
	if t.store.Begin(client, call.Key, call.Write, call.Value) != nil {
		return false
	}
	t.begun++
	return true
}

// finish lets all messages come, and clients begin, until none does.
func (t *trial) finish() {
	_ = t.store.Cut(nil)
	for more := true; more; {
		for t.store.Waiting() > 0 {
			_ = t.store.Deliver(0)
		}
		more = t.beginAll()
	}
}

// beginAll lets all clients begin, in order; it says whether one did.
func (t *trial) beginAll() bool {
	some := false
	for client := range t.Clients {
		if t.begin(client) {
			some = true
		}
	}
	return some
}

// report is what was seen, and the verdict on it.
func (t *trial) report() (Report, error) {
	l := t.store.Events()
	ops, err := event.Ops(l)
	if err != nil {
		return Report{}, err
	}
	v, err := linear.Check(api.Register, ops, t.Budget)
	if err != nil {
		return Report{}, err
	}
	return Report{Title: t.Title, Events: l, Verdict: v}, nil
}
