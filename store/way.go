package store

import (
	"testimony/api"
	"testimony/net"
)

// message is what goes between a client and a node: an asking or a telling of a round, or the answer to it.
type message struct {
	key, round int
	tells      bool
	entry      entry
}

// send puts a message on its way; what the net can't take is lost.
func (s *Store) send(from, to int, m message) {
	_ = s.way.Send(net.Mail[message]{From: from, To: to, What: m})
}

// answer lets a node hear a message: it keeps what it is told, if that is newer, and answers with what it has then.
func (s *Store) answer(m net.Mail[message]) {
	own := &s.nodes[m.To][m.What.key]
	if m.What.tells {
		*own = own.newer(m.What.entry)
	}
	s.send(m.To, m.From, message{key: m.What.key, round: m.What.round, entry: *own})
}

// Waiting is how many messages are on their way.
func (s *Store) Waiting() int {
	if s == nil {
		return 0
	}
	return s.way.Waiting()
}

// Deliver lets a message come to its end (as Take of chapter net says).
func (s *Store) Deliver(i int) error {
	if s == nil {
		return api.ErrNone
	}
	m, err := s.way.Take(i)
	if err != nil {
		return err
	}
	if m.To < s.setup.Nodes {
		s.answer(m)
	} else {
		s.count(m)
	}
	return nil
}

// Drop, Double, Cut do so on the net (nodes and clients are parted by it: clients have the numbers behind nodes; nil: all can talk).
func (s *Store) Drop(i int) error {
	if s == nil {
		return api.ErrNone
	}
	return s.way.Drop(i)
}

// Double makes a message come twice.
func (s *Store) Double(i int) error {
	if s == nil {
		return api.ErrNone
	}
	return s.way.Double(i)
}

// Cut parts nodes: clients can talk to those nodes only that can talk to the node with their number (modulo all nodes).
func (s *Store) Cut(l net.Links) error {
	if s == nil || l != nil && len(l) != s.setup.Nodes {
		return api.ErrForm
	}
	s.way.Cut(s.spread(l))
	return nil
}

// spread is links of nodes as links of all that stand on the net.
func (s *Store) spread(l net.Links) net.Links {
	if l == nil {
		return nil
	}
	wide := make(net.Links, s.setup.Nodes+s.setup.Clients)
	for a := range wide {
		row := l[s.nodeOf(a)]
		wide[a] = make([]bool, len(wide))
		for b := range wide[a] {
			to := s.nodeOf(b)
			wide[a][b] = to < len(row) && row[to]
		}
	}
	return wide
}

// nodeOf is the node as which the one with that number on the net is parted.
func (s *Store) nodeOf(number int) int {
	// Clients begin behind the last node, so that client c is c modulo all nodes from there on.
	return number % s.setup.Nodes
}
