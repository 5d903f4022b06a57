package gen

import (
	"strconv"
	"strings"

	"testimony/api"
)

const (
	maxText   = 2000
	maxTimes  = 1000
	maxAround = 19 // generators around another one
)

// Parse reads a generator. Errors are an At at a byte.
func Parse(text string) (Gen, error) {
	if len(text) > maxText {
		return nil, api.ErrLimit
	}
	r := reader{signs: signsOf(text)}
	g := r.gen(0)
	r.expect("")
	if r.fault != api.OK {
		return nil, &api.At{Err: r.fault, Place: r.signs[r.at].place}
	}
	return g, nil
}

// sign is a bracket, a comma or a word, and the place of its first byte.
type sign struct {
	text  string
	place int
}

// signsOf are a text's, and behind them an empty one at its end: what is wrong for want of a sign is wrong there.
func signsOf(text string) []sign {
	var l []sign
	for place := 0; place < len(text); {
		if text[place] == ' ' {
			place++
			continue
		}
		size := signSize(text[place:])
		l = append(l, sign{text[place : place+size], place})
		place += size
	}
	return append(l, sign{"", len(text)})
}

// signSize is how many bytes the sign has with which a text begins.
func signSize(text string) int {
	// A bracket or a comma is a sign of its own.
	switch end := strings.IndexAny(text, "(), "); end {
	case -1:
		return len(text)
	case 0:
		return 1
	default:
		return end
	}
}

// reader goes through signs from the left, and stays at the first one that can't stand there: fault tells why.
type reader struct {
	signs []sign
	at    int
	fault api.Errno
}

// next is the text of the sign that comes next.
func (r *reader) next() string { return r.signs[r.at].text }

// fail keeps what is wrong with the sign that comes next.
func (r *reader) fail(n api.Errno) {
	if r.fault == api.OK {
		r.fault = n
	}
}

// pass goes on behind the sign that comes next; the end stays where it is.
func (r *reader) pass() {
	if r.fault == api.OK && r.at < len(r.signs)-1 {
		r.at++
	}
}

// expect passes that sign, or fails at another one.
func (r *reader) expect(text string) {
	if r.next() != text {
		r.fail(api.ErrForm)
	}
	r.pass()
}

// gen reads a generator that so many stand around.
func (r *reader) gen(around int) Gen {
	if around > maxAround {
		r.fail(api.ErrLimit)
	}
	if r.fault != api.OK {
		return nil
	}
	name := r.next()
	if !isName(name) {
		r.fail(api.ErrForm)
		return nil
	}
	r.pass()
	switch name {
	case "read":
		return read{key: r.key()}
	case "write":
		return r.write()
	case "limit":
		times := r.number(0, maxTimes)
		return &limit{Gen: r.gen(around + 1), left: times}
	case "mix":
		return &mix{parts: r.list(around + 1)}
	default:
		return &then{parts: r.list(around + 1)}
	}
}

func isName(text string) bool {
	switch text {
	case "read", "write", "limit", "mix", "then":
		return true
	}
	return false
}

func (r *reader) key() int { return r.number(0, api.MaxKeys-1) }

// write reads what stands behind a write's name.
func (r *reader) write() Gen {
	key := r.key()
	low := r.number(-api.MaxNumber, api.MaxNumber)
	return write{key: key, low: low, top: r.number(low, api.MaxNumber)}
}

// list reads generators, one at least, in brackets.
func (r *reader) list(around int) []Gen {
	r.expect("(")
	l := []Gen{r.gen(around)}
	for r.fault == api.OK && r.next() == "," {
		r.pass()
		l = append(l, r.gen(around))
	}
	r.expect(")")
	return l
}

// number reads one from low to top. One of more than 64 bits is a number all the same, and beyond.
func (r *reader) number(low, top int) int {
	text := r.next()
	if !isNumber(text) {
		r.fail(api.ErrForm)
		return 0
	}
	n, err := strconv.Atoi(text)
	if err != nil || n < low || n > top {
		r.fail(api.ErrRange)
		return 0
	}
	r.pass()
	return n
}

// isNumber says whether a text is one, of any length: no nought ahead, and 0 without -.
func isNumber(text string) bool {
	digits := strings.TrimPrefix(text, "-")
	if strings.Trim(digits, "0123456789") != "" {
		return false
	}
	return text == "0" || digits != "" && digits[0] != '0'
}
