package desk

import (
	"strings"

	"testimony/api"
	"testimony/serial"
	"testimony/texts"
)

// steps puts steps behind those so far.
func (h *house) steps(words []string) []string {
	var more []serial.Step
	for _, word := range words {
		more = append(more, readStep(word))
	}
	all := behind(h.mixed, more)
	throw(serial.Check(all))
	h.mixed = all
	return numbers(len(all))
}

// readStep reads one: what it does, its transaction, and, of what has a key, x and the key.
func readStep(word string) serial.Step {
	kind := kindOf(word[0])
	tx, key, keyed := strings.Cut(word[1:], "x")
	if keyed != (kind < serial.Commit) {
		throw(api.ErrForm)
	}
	s := serial.Step{Tx: readNumber(tx), Kind: kind}
	if keyed {
		s.Key = readNumber(key)
	}
	return s
}

func kindOf(sign byte) int {
	switch sign {
	case 'r':
		return serial.Read
	case 'w':
		return serial.Write
	case 'c':
		return serial.Commit
	case 'a':
		return serial.Abort
	}
	panic(api.ErrForm)
}

func readNumber(text string) int {
	n, ok := texts.Number(text)
	if !ok {
		throw(api.ErrForm)
	}
	return n
}

// clashes tells an order of the transactions by what clashes, or a way round.
func (h *house) clashes([]string) []string {
	order, cycle, err := serial.Clashes(h.mixed)
	if api.Tell(err) == api.ErrCycle {
		return named("round", cycle)
	}
	throw(err)
	return named("order", order)
}

// sees tells an order of the transactions by what is read.
func (h *house) sees([]string) []string {
	return named("order", sure(serial.Sees(h.mixed)))
}

// careful tells how careful the steps are.
func (h *house) careful([]string) []string {
	k := sure(serial.Careful(h.mixed))
	words := []string{"careful"}
	for _, way := range []struct {
		name  string
		holds bool
	}{{"recover", k.Recover}, {"clean", k.Clean}, {"strict", k.Strict}} {
		if way.holds {
			words = append(words, way.name)
		}
	}
	return words
}
