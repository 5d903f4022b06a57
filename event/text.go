package event

import (
	"slices"
	"strconv"
	"strings"

	"testimony/api"
	"testimony/texts"
)

// Text writes events, one a line: the process, the type, the kind, the key, A, B, the Result.
func Text(l []Event) (string, error) {
	if len(l) > api.MaxEvents {
		return "", api.ErrLimit
	}
	var b strings.Builder
	for i, e := range l {
		if n := fault(e); n != api.OK {
			return "", &api.At{Err: n, Place: i}
		}
		b.WriteString(line(e))
		b.WriteByte('\n')
	}
	return b.String(), nil
}

// line writes an event that may be.
func line(e Event) string {
	words := []string{strconv.Itoa(e.Proc), typeNames()[e.Type], kindNames()[e.Kind]}
	for _, n := range [...]int{e.Key, e.A, e.B, e.Result} {
		words = append(words, strconv.Itoa(n))
	}
	return strings.Join(words, " ")
}

func typeNames() []string {
	return []string{Invoke: "invoke", Ok: "ok", Fail: "fail", Info: "info"}
}

func kindNames() []string {
	return []string{
		api.Read: "read", api.Write: "write", api.Swap: "swap",
		api.Add: "add", api.Get: "get",
		api.Put: "put", api.Drop: "drop", api.Has: "has",
		api.Push: "push", api.Pop: "pop",
		api.Lock: "lock", api.Unlock: "unlock",
	}
}

// Parse reads what Text writes, with blanks between words (several, too, and at both ends), lines without words between.
func Parse(text string) ([]Event, error) {
	if len(text) > api.MaxText {
		return nil, api.ErrLimit
	}
	var l []Event
	for place, s := range texts.Lines(text) {
		w := texts.Words(s)
		if len(w) == 0 {
			continue
		}
		e, n := parseWords(w)
		if n == api.OK && len(l) == api.MaxEvents {
			n = api.ErrLimit
		}
		if n != api.OK {
			return nil, &api.At{Err: n, Place: place}
		}
		l = append(l, e)
	}
	return l, nil
}

// parseWords makes an event of a line's words.
func parseWords(w []string) (Event, api.Errno) {
	if len(w) != 7 {
		return Event{}, api.ErrForm
	}
	var numbers [5]int
	for i, s := range [...]string{w[0], w[3], w[4], w[5], w[6]} {
		n, ok := texts.Number(s)
		if !ok {
			return Event{}, api.ErrForm
		}
		numbers[i] = n
	}
	what, kind := slices.Index(typeNames(), w[1]), slices.Index(kindNames(), w[2])
	if what < Invoke || kind < api.Read {
		return Event{}, api.ErrName
	}
	e := Event{Proc: numbers[0], Type: what, Kind: kind, Key: numbers[1], A: numbers[2], B: numbers[3], Result: numbers[4]}
	return e, fault(e)
}
