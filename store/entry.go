package store

// Stamp is how new a value is: by time, then by the client.
type Stamp struct{ Time, Client int }

// Less says whether it is older.
func (s Stamp) Less(t Stamp) bool {
	if s.Time != t.Time {
		return s.Time < t.Time
	}
	return s.Client < t.Client
}

// entry is a value of a key, and how new it is.
type entry struct {
	Stamp
	value int
}

// unwritten is what is there at first: older than whatever a client writes.
func unwritten() entry { return entry{Stamp: Stamp{Client: -1}} }

// newer is the newer one of two; the first, if both are as new.
func (e entry) newer(other entry) entry {
	if e.Less(other.Stamp) {
		return other
	}
	return e
}
