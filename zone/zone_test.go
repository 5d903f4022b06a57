package zone_test

import (
	"slices"
	"testing"

	"testimony/api"
	"testimony/zone"
)

// forward and back are zones.
func forward(value, from, to int) zone.Zone {
	return zone.Zone{Value: value, From: from, To: to, Forward: true}
}

func back(value, from, to int) zone.Zone { return zone.Zone{Value: value, From: from, To: to} }

// unread is the zone of 0, if it is not read.
func unread() zone.Zone { return back(0, -2, -1) }

func checkZones(t *testing.T, name string, ops []api.Op, want ...zone.Zone) {
	t.Helper()
	if got, err := zone.Zones(ops); err != nil || !slices.Equal(got, want) {
		t.Errorf("%s: %v, %v, not %v", name, got, err, want)
	}
}

func checkFits(t *testing.T, name string, ops ...api.Op) {
	t.Helper()
	if ok, a, b, err := zone.Fits(ops); !ok || a != 0 || b != 0 || err != nil {
		t.Errorf("%s: %v, %d, %d, %v", name, ok, a, b, err)
	}
}

func checkClash(t *testing.T, name string, first, other int, ops ...api.Op) {
	t.Helper()
	if ok, a, b, err := zone.Fits(ops); ok || a != first || b != other || err != nil {
		t.Errorf("%s: %v, %d, %d, %v, not %d, %d", name, ok, a, b, err, first, other)
	}
}

// 5.2: a value is read that no op writes; 0 needs no write.
func TestReadOfNothing(t *testing.T) {
	checkNoZones(t, "alone", []api.Op{read(0, 1, 0, 1)}, api.ErrNone)
	checkNoZones(t, "below 0", []api.Op{read(0, -1, 0, 1)}, api.ErrNone)
	checkNoZones(t, "another one is written", []api.Op{write(0, 1, 0, 1), read(0, 2, 2, 3)}, api.ErrNone)
	checkNoZones(t, "behind one that is", []api.Op{write(0, 1, 0, 1), read(0, 1, 2, 3), read(0, 2, 4, 5)}, api.ErrNone)
	checkNoZones(t, "a read's A writes nothing", []api.Op{but(read(0, 2, 0, 1), func(o *api.Op) { o.A = 2 })}, api.ErrNone)
	checkNoZones(t, "a write's B is not written", []api.Op{but(write(0, 1, 0, 1), func(o *api.Op) { o.B = 2 }), read(0, 2, 2, 3)}, api.ErrNone)
	checkNoZones(t, "though others clash", []api.Op{write(0, 1, 0, 1), read(0, 0, 2, 3), read(0, 9, 4, 5)}, api.ErrNone)
	checkZones(t, "0", []api.Op{read(0, 0, 0, 1)}, forward(0, -1, 0))
}

// 5.2: a read is at its end ahead of the call of its value's write.
func TestReadAheadOfWrite(t *testing.T) {
	checkNoZones(t, "wholly ahead", []api.Op{read(0, 1, 0, 1), write(0, 1, 2, 3)}, api.ErrNone)
	checkNoZones(t, "just ahead", []api.Op{read(0, 1, 0, 4), write(1, 1, 5, 6)}, api.ErrNone)
	checkNoZones(t, "far ahead", []api.Op{read(0, 1, 0, 1), write(1, 2, 2, 3), write(1, 1, 100, 101)}, api.ErrNone)
	checkNoZones(t, "another read is not", []api.Op{read(0, 1, 0, 1), write(0, 1, 2, 3), read(0, 1, 4, 5)}, api.ErrNone)
	checkZones(t, "just behind", []api.Op{read(0, 1, 0, 5), write(1, 1, 4, 6)}, unread(), back(1, 4, 5))
}

// 5.2: of each value its zone, by From.
func TestZones(t *testing.T) {
	checkZones(t, "nothing", nil, unread())
	checkZones(t, "nothing", []api.Op{}, unread())
	checkZones(t, "a write", []api.Op{write(0, 7, 3, 8)}, unread(), back(7, 3, 8))
	checkZones(t, "a write at first", []api.Op{write(0, 7, 0, 1)}, unread(), back(7, 0, 1))
	checkZones(t, "read behind", []api.Op{write(0, 7, 0, 1), read(1, 7, 4, 9)}, unread(), forward(7, 1, 4))
	checkZones(t, "read at the same time, ends first", []api.Op{write(0, 7, 0, 9), read(1, 7, 1, 2)}, unread(), back(7, 1, 2))
	checkZones(t, "read at the same time, begins first", []api.Op{read(1, 7, 0, 9), write(0, 7, 1, 2)}, unread(), back(7, 1, 2))
	checkZones(t, "reads one behind the other while it is written",
		[]api.Op{write(0, 7, 0, 9), read(1, 7, 1, 2), read(1, 7, 3, 4)}, unread(), forward(7, 2, 3))
	checkZones(t, "the least end and the greatest call, of ops between",
		[]api.Op{write(0, 7, 0, 20), read(1, 7, 1, 12), read(2, 7, 2, 6)}, unread(), back(7, 2, 6))
	checkZones(t, "the greatest call is not the last end's",
		[]api.Op{write(0, 7, 0, 20), read(1, 7, 1, 12), read(2, 7, 2, 6), read(2, 7, 8, 30), read(3, 7, 9, 10)}, unread(), forward(7, 6, 9))
	checkZones(t, "0 is read", []api.Op{read(0, 0, 2, 5), read(1, 0, 4, 6)}, forward(0, -1, 4))
	checkZones(t, "0 is read at first", []api.Op{read(0, 0, 0, 5)}, forward(0, -1, 0))
}

// 5.2: By From, rising: not by value, nor by call of the writes, nor by To.
func TestZonesOrder(t *testing.T) {
	checkZones(t, "values fall", []api.Op{write(0, 3, 0, 1), write(0, 2, 2, 3), write(0, -1, 4, 5)},
		unread(), back(3, 0, 1), back(2, 2, 3), back(-1, 4, 5))
	checkZones(t, "not by the writes' calls", []api.Op{write(0, 1, 0, 9), write(1, 2, 1, 3), read(2, 1, 6, 7)},
		unread(), back(2, 1, 3), back(1, 6, 7))
	checkZones(t, "not by To", []api.Op{write(0, 1, 0, 9), write(1, 2, 1, 3)},
		unread(), back(1, 0, 9), back(2, 1, 3))
	checkZones(t, "forward and back", []api.Op{write(0, 1, 0, 2), write(1, 2, 1, 3), read(0, 1, 4, 5), read(1, 0, 6, 7)},
		forward(0, -1, 6), back(2, 1, 3), forward(1, 2, 4))
	var ops []api.Op
	want := []zone.Zone{unread()}
	for n := range api.MaxOps {
		value := (n*7)%api.MaxOps - 50
		ops = append(ops, write(n%api.MaxProcs, value, 2*n, 2*n+1))
		want = append(want, back(value, 2*n, 2*n+1))
	}
	checkZones(t, "as many as may be", ops, want...)
}

// 5.3: what fits.
func TestFits(t *testing.T) {
	checkFits(t, "nothing")
	checkFits(t, "a write", write(0, 1, 0, 1))
	checkFits(t, "0 is read", read(0, 0, 0, 1), read(0, 0, 2, 3))
	checkFits(t, "one forward behind the other",
		read(0, 0, 0, 1), write(0, 1, 2, 3), read(0, 1, 4, 5), write(0, 2, 6, 7), read(0, 2, 8, 9))
	checkFits(t, "forward: From just above To", write(0, 1, 0, 1), write(1, 2, 3, 6), read(2, 1, 4, 5), read(1, 2, 7, 8))
	checkFits(t, "back behind a forward one's To", write(0, 1, 0, 1), read(0, 1, 2, 3), write(0, 2, 4, 5))
	checkFits(t, "back: To above", write(0, 1, 0, 1), write(1, 2, 2, 5), read(0, 1, 4, 6))
	checkFits(t, "back: From below", write(1, 2, 0, 5), write(0, 1, 1, 2), read(0, 1, 6, 7))
	checkFits(t, "a forward one within a back one", write(0, 2, 0, 20), write(1, 1, 1, 2), read(1, 1, 4, 5))
	checkFits(t, "two back over each other", write(0, 1, 0, 3), write(1, 2, 1, 4))
	checkFits(t, "one back within another one", write(0, 1, 0, 4), write(1, 2, 1, 3))
	checkFits(t, "0 is read beside a write", write(0, 1, 0, 9), read(1, 0, 1, 2), read(1, 0, 3, 4), read(1, 1, 5, 6))
}

// 5.3: two forward zones over each other.
func TestForwardClash(t *testing.T) {
	checkClash(t, "over each other", 1, 2, write(0, 1, 0, 1), write(0, 2, 2, 3), read(0, 1, 4, 5), read(0, 2, 6, 7))
	checkClash(t, "one within the other one", 1, 2, write(0, 1, 0, 1), write(0, 2, 2, 3), read(0, 2, 4, 5), read(0, 1, 6, 7))
	checkClash(t, "by From, not by value", 9, -4, write(0, 9, 0, 1), write(0, -4, 2, 3), read(0, 9, 4, 5), read(0, -4, 6, 7))
	checkClash(t, "From just below To", 1, 2, write(0, 1, 0, 1), write(1, 2, 2, 3), read(0, 1, 4, 5), read(1, 2, 6, 7))
	checkClash(t, "0 and another one", 0, 1, write(0, 1, 0, 1), read(0, 0, 2, 3), read(0, 1, 4, 5))
}

// 5.3: a zone back within a forward one.
func TestBackClash(t *testing.T) {
	checkClash(t, "within", 1, 2, write(0, 1, 0, 1), write(0, 2, 2, 3), read(0, 1, 4, 5))
	checkClash(t, "within that of 0", 0, 1, write(0, 1, 0, 1), read(0, 0, 2, 3))
	checkClash(t, "To just below", 1, 2, write(0, 1, 0, 1), write(1, 2, 2, 4), read(0, 1, 5, 6))
	checkClash(t, "a read beside its write within", 1, 2, write(0, 1, 0, 1), write(1, 2, 2, 4), read(2, 2, 3, 9), read(0, 1, 5, 6))
}

// 5.3: of the first such first zone the first such other one, back or forward.
func TestFirstClash(t *testing.T) {
	checkClash(t, "back stands ahead", 1, 3,
		write(0, 1, 0, 1), write(0, 3, 2, 3), write(0, 2, 4, 5), read(0, 1, 6, 7), read(0, 2, 8, 9))
	checkClash(t, "forward stands ahead", 1, 2,
		write(0, 1, 0, 1), write(0, 2, 2, 3), write(0, 3, 4, 5), read(0, 1, 6, 7), read(0, 2, 8, 9))
	checkClash(t, "one without a clash stands ahead", 4, 3,
		write(0, 5, 0, 1), read(0, 5, 2, 3), write(0, 4, 4, 5), write(0, 3, 6, 7), read(0, 4, 8, 9))
	checkClash(t, "others clash among themselves", 4, 1,
		write(0, 4, 0, 1), write(1, 3, 2, 30), write(0, 1, 4, 5), write(0, 2, 6, 7), read(0, 1, 8, 9), read(0, 4, 10, 11))
	checkClash(t, "a back one that is not within stands between", 4, 1,
		write(0, 4, 0, 1), write(1, 3, 2, 30), write(0, 1, 4, 5), read(0, 4, 10, 11))
	checkClash(t, "all", 0, 1,
		write(0, 1, 0, 1), write(0, 2, 2, 3), read(0, 1, 4, 5), read(0, 2, 6, 7), read(0, 0, 8, 9))
}

// P4: the ops stay as they are, also behind their length; the zones are the caller's.
func TestMemory(t *testing.T) {
	room := []api.Op{write(0, 1, 0, 1), write(0, 2, 2, 3), read(0, 1, 4, 5), read(0, 2, 6, 7)}
	was := slices.Clone(room)
	want := []zone.Zone{unread(), forward(1, 1, 4), back(2, 2, 3)}
	zones, err := zone.Zones(room[:3])
	if err != nil || !slices.Equal(zones, want) {
		t.Fatalf("%v, %v", zones, err)
	}
	for i := range zones {
		zones[i] = zone.Zone{Value: 99}
	}
	checkZones(t, "again", room[:3], want...)
	checkClash(t, "again", 1, 2, room[:3]...)
	if err := zone.Check(room[:3]); err != nil || !slices.Equal(room, was) {
		t.Errorf("the ops were written into: %v, %v", room, err)
	}
}
