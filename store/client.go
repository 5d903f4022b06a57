package store

import (
	"slices"

	"testimony/api"
	"testimony/event"
	"testimony/net"
)

// What a client is at.
const (
	nothing = iota
	asking
	telling
	gone
)

// client is what one is at: its call as it was seen, its last round, which nodes were counted in it, and what it keeps.
type client struct {
	at      int
	call    event.Event
	round   int
	counted []int
	kept    entry
}

// busy says whether it is at something.
func (c *client) busy() bool { return c.at == asking || c.at == telling }

// goRound lets a client ask, or tell: a message goes to each node, in a round of its own, so that late answers to rounds ahead are known as such.
func (s *Store) goRound(who, at int) {
	c := &s.clients[who]
	c.at = at
	c.round++
	c.counted = nil
	for node := range s.nodes {
		s.send(s.setup.Nodes+who, node, message{key: c.call.Key, round: c.round, tells: at == telling, entry: c.kept})
	}
}

// count lets a client hear an answer.
func (s *Store) count(m net.Mail[message]) {
	who := m.To - s.setup.Nodes
	c := &s.clients[who]
	if !c.busy() || m.What.round != c.round || slices.Contains(c.counted, m.From) {
		return
	}
	c.counted = append(c.counted, m.From)
	if c.at == asking {
		c.kept = c.kept.newer(m.What.entry)
		if len(c.counted) == s.setup.Ask {
			s.asked(who)
		}
		return
	}
	if len(c.counted) == s.setup.Tell {
		s.done(who)
	}
}

// asked lets a client go on that was answered by as many as it asks.
func (s *Store) asked(who int) {
	c := &s.clients[who]
	writes := c.call.Kind == api.Write
	if writes {
		c.kept = entry{Stamp{c.kept.Time + 1, who}, c.call.A}
	}
	if writes || s.setup.Back {
		s.goRound(who, telling)
		return
	}
	s.done(who)
}

// done lets a client be at its end.
func (s *Store) done(who int) {
	c := &s.clients[who]
	end := c.call
	end.Type = event.Ok
	if end.Kind == api.Read {
		end.Result = c.kept.value
	}
	s.see(end, c.kept.Stamp)
	c.at = nothing
}
