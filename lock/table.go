package lock

import (
	"slices"

	"testimony/serial"
)

// crowd is some transactions, a bit each.
type crowd uint

// with is a crowd and one more.
func (c crowd) with(tx int) crowd { return c | 1<<tx }

// has says whether a transaction is one of them.
func (c crowd) has(tx int) bool { return c>>tx&1 == 1 }

// table is which locks are held: each as the step that it was taken for, which tells who holds it, of which key, and whether to read or to write.
type table struct{ held []serial.Step }

// against are those that stand against a step: others that hold the lock of its key, unless both only read.
func (t *table) against(s serial.Step) crowd {
	var all crowd
	for _, h := range t.held {
		if h.Tx != s.Tx && h.Key == s.Key && (h.Kind == serial.Write || s.Kind == serial.Write) {
			all = all.with(h.Tx)
		}
	}
	return all
}

// take holds the lock that a step needs.
func (t *table) take(s serial.Step) { t.held = append(t.held, s) }

// free lets go of the locks of which that is told.
func (t *table) free(freed func(held serial.Step) bool) {
	t.held = slices.DeleteFunc(t.held, freed)
}
