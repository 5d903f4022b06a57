package record

import (
	"cmp"
	"slices"

	"testimony/api"
	"testimony/event"
)

// Stripe is a recorder's own list: events with tickets, which rise.
type Stripe struct {
	Tickets []int
	Events  []event.Event
}

// kept is an event with its ticket.
type kept struct {
	ticket int
	what   event.Event
}

// Merge is the events of stripes, by tickets. ErrOrder: tickets of a stripe don't rise; ErrTwice: a ticket is there twice; ErrForm: a stripe has not as many tickets as events.
func Merge(l []Stripe) ([]event.Event, error) {
	var all []kept
	for _, s := range l {
		if len(s.Tickets) != len(s.Events) {
			return nil, api.ErrForm
		}
		if !rise(s.Tickets) {
			return nil, api.ErrOrder
		}
		for i, t := range s.Tickets {
			all = append(all, kept{t, s.Events[i]})
		}
	}
	slices.SortFunc(all, func(a, b kept) int { return cmp.Compare(a.ticket, b.ticket) })
	return once(all)
}

// rise says whether each ticket is above the one ahead of it.
func rise(tickets []int) bool {
	for i := 1; i < len(tickets); i++ {
		if tickets[i] <= tickets[i-1] {
			return false
		}
	}
	return true
}

// once is the events of what lies in order of its tickets; ErrTwice: two beside each other have the same.
func once(all []kept) ([]event.Event, error) {
	l := make([]event.Event, 0, len(all))
	for i, k := range all {
		if i > 0 && k.ticket == all[i-1].ticket {
			return nil, api.ErrTwice
		}
		l = append(l, k.what)
	}
	return l, nil
}
