// Package texts: lines, words and numbers, as the chapters' texts have them.
package texts

import (
	"iter"
	"strconv"
	"strings"
)

// Lines are a text's, cut at line feeds, each with the place of its first byte.
func Lines(text string) iter.Seq2[int, string] {
	return func(yield func(int, string) bool) {
		place := 0
		for {
			s, rest, more := strings.Cut(text[place:], "\n")
			if !yield(place, s) || !more {
				return
			}
			place = len(text) - len(rest)
		}
	}
}

// Words are a line's, with blanks between. Nothing but the blank is one: other white space is a part of a word, which then is no number and no name.
func Words(line string) []string {
	return strings.FieldsFunc(line, func(r rune) bool { return r == ' ' })
}

// Number reads one of 64 bits: no + and no nought ahead, and 0 without -.
func Number(s string) (int, bool) {
	n, err := strconv.ParseInt(s, 10, 64)
	if err != nil || strconv.FormatInt(n, 10) != s {
		return 0, false
	}
	return int(n), true
}
