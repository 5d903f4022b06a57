// Package event: what was seen.
package event

import (
	"testimony/api"
)

// Types of events.
const (
	Invoke = iota + 1
	Ok     // it took place
	Fail   // it did not take place
	Info   // it is not known
)

// Event is one: a process begins something, or is told what came of it (Result: of Ok).
type Event struct{ Proc, Type, Key, Kind, A, B, Result int }

// Check says whether an event may be.
func Check(e Event) error { return told(fault(e)) }

// told keeps OK from being an error: as one it would not be nil.
func told(n api.Errno) error {
	if n == api.OK {
		return nil
	}
	return n
}

// fault is what is wrong with an event; OK: nothing is.
func fault(e Event) api.Errno {
	switch {
	case !inBounds(e.Proc, e.Key, e.A, e.B, e.Result):
		return api.ErrRange
	case e.Type < Invoke || e.Type > Info || !isKind(e.Kind):
		return api.ErrArg
	case e.Result != 0 && e.Type != Ok:
		return api.ErrArg
	}
	return api.OK
}

// inBounds holds for events and for ops: what they tell has the same bounds.
func inBounds(proc, key, a, b, result int) bool {
	return proc >= 0 && proc < api.MaxProcs && key >= 0 && key < api.MaxKeys &&
		isNumber(a) && isNumber(b) && isNumber(result)
}

func isNumber(n int) bool { return n >= -api.MaxNumber && n <= api.MaxNumber }

func isKind(kind int) bool { return kind >= api.Read && kind <= api.Unlock }
