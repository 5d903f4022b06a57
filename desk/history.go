package desk

import (
	"slices"
	"strings"

	"testimony/api"
	"testimony/causal"
	"testimony/event"
	"testimony/linear"
	"testimony/queue"
	"testimony/zone"
)

// budget is how many states a search may enter.
const budget = 20_000

// see puts an event behind those so far.
func (h *house) see(words []string) []string {
	more := sure(event.Parse(strings.Join(words, " ")))
	all := behind(h.seen, more)
	sure(event.Ops(all))
	h.seen = all
	return numbers(len(all))
}

// behind is a list with more behind it, and no room beyond: whatever is put behind that again does not write into what is kept.
func behind[T any](l, more []T) []T {
	all := append(l, more...)
	return all[:len(all):len(all)]
}

// events tells those so far.
func (h *house) events([]string) []string {
	text := sure(event.Text(h.seen))
	return []string{strings.ReplaceAll(strings.TrimSuffix(text, "\n"), "\n", "; ")}
}

// done are the ops that the events so far make.
func (h *house) done() []api.Op { return sure(event.Ops(h.seen)) }

// ops tells how many there are, and how many have no Return.
func (h *house) ops([]string) []string {
	all, open := h.done(), 0
	for _, op := range all {
		if op.Return == -1 {
			open++
		}
	}
	return numbers(len(all), open)
}

// judge is one of linear's.
type judge func(object int, ops []api.Op, budget int) (linear.Verdict, error)

// check tells whether the ops can have taken place in the order of time.
func (h *house) check(words []string) []string { return h.verdict(linear.Check, words[0]) }

// same tells it in the order of processes.
func (h *house) same(words []string) []string { return h.verdict(linear.Same, words[0]) }

// verdict tells what a judge says of the ops, with an object of that name.
func (h *house) verdict(by judge, name string) []string {
	object := slices.Index(objectNames(), name)
	if object < api.Register {
		throw(api.ErrName)
	}
	v := sure(by(object, h.done(), budget))
	return named(codeNames()[v.Code], v.Order)
}

func objectNames() []string {
	return []string{
		api.Register: "register", api.Counter: "counter", api.Set: "set",
		api.Queue: "queue", api.Stack: "stack", api.Mutex: "mutex",
	}
}

func codeNames() []string {
	return []string{linear.Valid: "valid", linear.Invalid: "invalid", linear.Unknown: "unknown"}
}

// zones tells whether those of the values fit, or two that don't.
func (h *house) zones([]string) []string {
	ok, a, b, err := zone.Fits(h.done())
	throw(err)
	if ok {
		return []string{"fits"}
	}
	return numbers(a, b)
}

// queue tells what can't be, if it is one.
func (h *house) queue([]string) []string { return finds(queue.Finds(h.done())) }

// causal tells what can't be, whatever the times.
func (h *house) causal([]string) []string { return finds(causal.Finds(h.done())) }

// finds tells what can't be, and the numbers of two ops.
func finds(code, a, b int, err error) []string {
	throw(err)
	return numbers(code, a, b)
}

// clear lets go of all events and steps.
func (h *house) clear([]string) []string {
	*h = house{}
	return []string{"clear"}
}
