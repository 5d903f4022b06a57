package store_test

import (
	"fmt"
	"slices"
	"testing"

	"testimony/api"
	"testimony/event"
	"testimony/linear"
	"testimony/local"
	"testimony/net"
	"testimony/store"
)

// die: numbers that look drawn, the same each time.
type die uint64

func (d *die) n(most int) int {
	*d = *d*6364136223846793005 + 1442695040888963407
	return int(uint64(*d>>33) % uint64(most))
}

// place is where a value is kept, version what is kept there.
type place struct{ node, key int }
type version struct{ value, time, client int }

func (v version) stamp() store.Stamp { return store.Stamp{Time: v.time, Client: v.client} }

func (v version) olderThan(w version) bool {
	return v.time < w.time || v.time == w.time && v.client < w.client
}

// letter is a message: from a client to a node, or back; round is a number that no other round of any client has.
type letter struct {
	client, node int
	back, tells  bool
	key, round   int
	what         version
}

// work is what a client is at; answers are those that count, in order.
type work struct {
	begun   event.Event
	round   int
	tells   bool
	chosen  version
	answers []letter
}

// told is chapter 17 word by word, with a net of its own.
type told struct {
	setup   store.Setup
	kept    map[place]version
	works   map[int]*work
	gone    map[int]bool
	rounds  int
	letters []letter
	links   net.Links
	events  []event.Event
	stamps  []store.Stamp
}

func tell(setup store.Setup) *told {
	w := &told{setup: setup, kept: map[place]version{}, works: map[int]*work{}, gone: map[int]bool{}}
	for node := range setup.Nodes {
		for key := range api.MaxKeys {
			w.kept[place{node, key}] = version{0, 0, -1}
		}
	}
	return w
}

func (w *told) see(e event.Event, kind int, result int, stamp store.Stamp) {
	e.Type, e.Result = kind, result
	w.events, w.stamps = append(w.events, e), append(w.stamps, stamp)
}

func (w *told) free(c int) api.Errno {
	if c < 0 || c >= w.setup.Clients {
		return api.ErrRange
	}
	if w.works[c] != nil || w.gone[c] {
		return api.ErrState
	}
	if len(w.events)+2+len(w.works) > api.MaxEvents {
		return api.ErrLimit
	}
	return api.OK
}

func (w *told) begin(c, key int, write bool, value int) api.Errno {
	if key < 0 || key > api.MaxKeys-1 || value < -api.MaxNumber || value > api.MaxNumber || !write && value != 0 {
		return api.ErrRange
	}
	if code := w.free(c); code != api.OK {
		return code
	}
	e := event.Event{Proc: c, Key: key, Kind: api.Read}
	if write {
		e.Kind, e.A = api.Write, value
	}
	w.see(e, event.Invoke, 0, store.Stamp{})
	w.works[c] = &work{begun: e}
	w.goOn(c, false, version{})
	return api.OK
}

func (w *told) goOn(c int, tells bool, what version) {
	w.rounds++
	k := w.works[c]
	k.round, k.tells, k.chosen, k.answers = w.rounds, tells, what, nil
	for node := range w.setup.Nodes {
		w.send(letter{client: c, node: node, tells: tells, key: k.begun.Key, round: w.rounds, what: what})
	}
}

func (w *told) send(l letter) api.Errno {
	if len(w.letters) >= 500 {
		return api.ErrLimit
	}
	w.letters = append(slices.Clone(w.letters), l)
	return api.OK
}

func (w *told) giveUp(c int) api.Errno {
	if c < 0 || c >= w.setup.Clients {
		return api.ErrRange
	}
	if w.works[c] == nil {
		return api.ErrState
	}
	w.see(w.works[c].begun, event.Info, 0, store.Stamp{})
	delete(w.works, c)
	w.gone[c] = true
	return api.OK
}

func (w *told) lose(i int) (letter, api.Errno) {
	if i < 0 || i >= len(w.letters) {
		return letter{}, api.ErrNone
	}
	l := w.letters[i]
	w.letters = slices.Concat(w.letters[:i], w.letters[i+1:])
	return l, api.OK
}

func (w *told) double(i int) api.Errno {
	if i < 0 || i >= len(w.letters) {
		return api.ErrNone
	}
	return w.send(w.letters[i])
}

func (w *told) cut(l net.Links) api.Errno {
	if l != nil && len(l) != w.setup.Nodes {
		return api.ErrForm
	}
	w.links = l
	return api.OK
}

func (w *told) canTalk(l letter) bool {
	if w.links == nil {
		return true
	}
	from, to := l.client%w.setup.Nodes, l.node
	if l.back {
		from, to = to, from
	}
	return to < len(w.links[from]) && w.links[from][to]
}

func (w *told) deliver(i int) api.Errno {
	if i >= 0 && i < len(w.letters) && !w.canTalk(w.letters[i]) {
		return api.ErrState
	}
	l, code := w.lose(i)
	if code != api.OK {
		return code
	}
	if l.back {
		w.count(l)
		return api.OK
	}
	at := place{l.node, l.key}
	if l.tells && w.kept[at].olderThan(l.what) {
		w.kept[at] = l.what
	}
	l.back, l.what = true, w.kept[at]
	w.send(l)
	return api.OK
}

func (w *told) count(l letter) {
	k := w.works[l.client]
	if k == nil || k.round != l.round || slices.ContainsFunc(k.answers, func(other letter) bool { return other.node == l.node }) {
		return
	}
	k.answers = append(k.answers, l)
	switch {
	case k.tells && len(k.answers) == w.setup.Tell:
		w.end(l.client)
	case !k.tells && len(k.answers) == w.setup.Ask:
		best := k.answers[0].what
		for _, other := range k.answers {
			if best.olderThan(other.what) {
				best = other.what
			}
		}
		switch {
		case k.begun.Kind == api.Write:
			w.goOn(l.client, true, version{k.begun.A, best.time + 1, l.client})
		case w.setup.Back:
			w.goOn(l.client, true, best)
		default:
			k.chosen = best
			w.end(l.client)
		}
	}
}

func (w *told) end(c int) {
	k := w.works[c]
	result := 0
	if k.begun.Kind == api.Read {
		result = k.chosen.value
	}
	w.see(k.begun, event.Ok, result, k.chosen.stamp())
	delete(w.works, c)
}

// drawLinks are links of a rule, of more or fewer nodes now and then, or drawn ones.
func drawLinks(d *die, nodes int) net.Links {
	n := nodes
	if d.n(8) == 0 {
		n = 1 + d.n(api.MaxNodes)
	}
	var l net.Links
	switch d.n(7) {
	case 0:
		l, _ = net.Halves(n)
	case 1:
		l, _ = net.Bridge(n)
	case 2:
		l, _ = net.Ring(n)
	case 3:
		l, _ = net.Alone(n, d.n(n))
	case 4:
		l = make(net.Links, n)
		for a := range l {
			for range d.n(n + 2) {
				l[a] = append(l[a], d.n(3) > 0)
			}
		}
	}
	return l
}

// drawSetup is one that may be.
func drawSetup(d *die) store.Setup {
	n := 1 + d.n(5)
	return store.Setup{Nodes: n, Clients: 1 + d.n(4), Ask: 1 + d.n(n), Tell: 1 + d.n(n), Back: d.n(2) == 0}
}

// same does one thing on both, and says whether both tell the same; code is what is told.
func same(d *die, s *store.Store, w *told, value int) (code api.Errno, ok bool) {
	var err error
	c, i := d.n(w.setup.Clients+2)-1, d.n(len(w.letters)+2)-1
	switch what := d.n(40); {
	case what < 8:
		key, write := d.n(3), d.n(2) == 0
		if d.n(30) == 0 {
			key = d.n(12) - 2
		}
		if !write && d.n(30) > 0 {
			value = 0
		}
		err, code = s.Begin(c, key, write, value), w.begin(c, key, write, value)
	case what < 30:
		err, code = s.Deliver(i), w.deliver(i)
	case what < 32:
		err = s.Drop(i)
		_, code = w.lose(i)
	case what < 35:
		err, code = s.Double(i), w.double(i)
	case what < 37:
		l := drawLinks(d, w.setup.Nodes)
		err, code = s.Cut(l), w.cut(l)
	case what < 38:
		err, code = s.Cut(nil), w.cut(nil)
	case what < 39 && d.n(4) == 0:
		err, code = s.GiveUp(c), w.giveUp(c)
	default:
		err, code = s.Free(c), w.free(c)
	}
	return code, api.Tell(err) == code
}

// 17.1 to 17.4: what is told, and what is seen, is that of the promises' own words.
func TestStoreIsPlain(t *testing.T) {
	d := die(173)
	codes, dones, infos := map[api.Errno]int{}, 0, 0
	for round := range 1500 {
		setup := drawSetup(&d)
		s, w := newStore(t, setup), tell(setup)
		moves := d.n(300)
		if round%20 == 0 {
			moves = 3000
		}
		for k := range moves {
			code, ok := same(&d, s, w, 1+k%9)
			if !ok || s.Waiting() != len(w.letters) {
				t.Fatalf("round %d, %v, move %d: not %v, or %d on their way, not %d", round, setup, k, code, s.Waiting(), len(w.letters))
			}
			codes[code]++
		}
		if !slices.Equal(s.Events(), w.events) || !slices.Equal(s.Stamps(), w.stamps) {
			t.Fatalf("round %d, %v: %s, %v, not %v, %v", round, setup, seen(s), s.Stamps(), w.events, w.stamps)
		}
		for _, e := range w.events {
			if e.Type == event.Ok {
				dones++
			}
			if e.Type == event.Info {
				infos++
			}
		}
	}
	if min(codes[api.OK], codes[api.ErrNone], codes[api.ErrState], codes[api.ErrRange], codes[api.ErrForm]) < 200 || codes[api.ErrLimit] < 20 || min(dones, infos) < 500 {
		t.Errorf("too few of a kind: %v, %d done, %d not known", codes, dones, infos)
	}
}

// ran is what was seen of a store that was moved in any way: lost, doubled, late, parted, given up; no value is written twice.
func ran(t *testing.T, d *die, setup store.Setup, keys, most int) *store.Store {
	t.Helper()
	s := newStore(t, setup)
	begun := 0
	begin := func() {
		c, write, value := d.n(setup.Clients), d.n(2) == 0, 0
		if begun == most || s.Free(c) != nil {
			return
		}
		begun++
		if write {
			value = begun
		}
		if err := s.Begin(c, d.n(keys), write, value); err != nil {
			t.Fatal(err)
		}
	}
	for range 60 + d.n(200) {
		switch what := d.n(60); {
		case what < 12:
			begin()
		case what < 50:
			_ = s.Deliver(d.n(s.Waiting() + 1))
		case what < 52:
			_ = s.Drop(d.n(s.Waiting() + 1))
		case what < 55:
			_ = s.Double(d.n(s.Waiting() + 1))
		case what < 57:
			_ = s.Cut(drawLinks(d, setup.Nodes))
		case what < 59:
			_ = s.Cut(nil)
		case d.n(3) == 0:
			_ = s.GiveUp(d.n(setup.Clients))
		}
	}
	return s
}

// ops are those that a store's events make, which they always do.
func ops(t *testing.T, s *store.Store) []api.Op {
	t.Helper()
	l, err := event.Ops(s.Events())
	if err != nil {
		t.Fatalf("%s: %v", seen(s), err)
	}
	return l
}

// verdict is whether what was seen can have taken place one by one.
func verdict(t *testing.T, s *store.Store) int {
	t.Helper()
	v, err := local.Check(api.Register, ops(t, s), api.MaxBudget, 2)
	if err != nil {
		t.Fatalf("%s: %v", seen(s), err)
	}
	return v.Code
}

// The whole's point 10: where quorums meet, and readers tell, what is seen can have taken place one by one, whatever is lost, doubled, late or parted.
func TestQuorumsAreEnough(t *testing.T) {
	d := die(1710)
	shown, dones := 0, 0
	for range 2500 {
		setup := drawSetup(&d)
		setup.Ask = max(setup.Ask, setup.Nodes+1-setup.Tell)
		setup.Back = true
		s := ran(t, &d, setup, 1+d.n(2), 16)
		if verdict(t, s) != linear.Valid {
			t.Fatalf("%v: %s", setup, seen(s))
		}
		for _, o := range ops(t, s) {
			if o.Return >= 0 {
				dones++
				if o.Kind == api.Read && o.Result != 0 {
					shown++
				}
			}
		}
	}
	if shown < 1500 || dones < 6000 {
		t.Errorf("too few of a kind: %d done, %d read what was written", dones, shown)
	}
}

// stampOf is the stamp of each op that came to its end.
func stampOf(s *store.Store, o api.Op) store.Stamp { return s.Stamps()[o.Return] }

// old is the first pair of ops of a key, the first one at its end ahead of the other one's call, of which the other one's stamp is too old: of a read less than that of what was written ahead, of a write not above whatever was read or written ahead.
func old(s *store.Store, l []api.Op, reads bool) string {
	for _, a := range l {
		for _, b := range l {
			if a.Key != b.Key || b.Return < 0 || !event.Before(a, b) || a.Kind == api.Read && !reads {
				continue
			}
			if first, then := stampOf(s, a), stampOf(s, b); then.Less(first) || b.Kind == api.Write && then == first {
				return fmt.Sprint(a, b)
			}
		}
	}
	return ""
}

// The whole's point 10: without telling nothing is read that is older than what was written ahead; but there may be what can't have taken place one by one. With telling nothing is older than what was read ahead, either. Where quorums don't meet, neither holds.
func TestStampsRise(t *testing.T) {
	d := die(1711)
	var inverted, stale, missed, unmet int
	for range 8000 {
		setup := drawSetup(&d)
		// Who asks one node is soon done, while a writer still tells all.
		if d.n(2) == 0 {
			setup = store.Setup{Nodes: 3, Clients: 4, Ask: 1, Tell: 3, Back: d.n(3) == 0}
		}
		s := ran(t, &d, setup, 1+d.n(2), 16)
		l := ops(t, s)
		meets := setup.Ask+setup.Tell > setup.Nodes
		switch {
		case meets && old(s, l, setup.Back) != "":
			t.Fatalf("%v: %s: %s", setup, seen(s), old(s, l, setup.Back))
		case meets && !setup.Back:
			if verdict(t, s) == linear.Invalid {
				inverted++
			}
			if old(s, l, true) != "" {
				stale++
			}
		case !meets:
			if old(s, l, false) != "" {
				missed++
			}
			if verdict(t, s) == linear.Invalid {
				unmet++
			}
		}
	}
	if min(inverted, stale, missed, unmet) < 50 {
		t.Errorf("too few of a kind: %d, %d without telling, %d, %d where quorums don't meet", inverted, stale, missed, unmet)
	}
}

// Where quorums meet, a stamp tells the value: no two writes of a key have one, and who reads it reads what was written with it.
func TestStampsTellValues(t *testing.T) {
	d := die(1712)
	found := 0
	for range 2500 {
		setup := drawSetup(&d)
		setup.Tell = max(setup.Tell, setup.Nodes+1-setup.Ask)
		s := ran(t, &d, setup, 2, 20)
		type name struct {
			key   int
			stamp store.Stamp
		}
		written := map[name]int{}
		l := ops(t, s)
		for _, o := range l {
			if o.Kind != api.Write || o.Return < 0 {
				continue
			}
			n := name{o.Key, stampOf(s, o)}
			if _, twice := written[n]; twice || n.stamp.Client != o.Proc || n.stamp.Time < 1 {
				t.Fatalf("%v: %s: %v", setup, seen(s), n)
			}
			written[n] = o.A
		}
		for _, o := range l {
			if o.Kind != api.Read || o.Return < 0 {
				continue
			}
			stamp := stampOf(s, o)
			if (stamp == store.Stamp{Client: -1}) != (o.Result == 0) {
				t.Fatalf("%v: %s: %v", setup, seen(s), o)
			}
			if value, ok := written[name{o.Key, stamp}]; ok {
				found++
				if value != o.Result {
					t.Fatalf("%v: %s: %v", setup, seen(s), o)
				}
			}
		}
	}
	if found < 1500 {
		t.Errorf("too few of a kind: %d reads of what was written", found)
	}
}
