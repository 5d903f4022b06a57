package texts_test

import (
	"fmt"
	"strings"
	"testing"

	"testimony/texts"
)

func TestLines(t *testing.T) {
	for _, c := range []struct{ text, want string }{
		{"", `0""`},
		{"a", `0"a"`},
		{"\n", `0"" 1""`},
		{"a\n", `0"a" 2""`},
		{"\n\na b\r\n c", `0"" 1"" 2"a b\r" 7" c"`},
	} {
		var l []string
		for place, s := range texts.Lines(c.text) {
			l = append(l, fmt.Sprintf("%d%q", place, s))
		}
		if got := strings.Join(l, " "); got != c.want {
			t.Errorf("%q: %s, not %s", c.text, got, c.want)
		}
	}
}

func TestLinesStop(t *testing.T) {
	count := 0
	for range texts.Lines("a\nb\nc") {
		count++
		if count == 2 {
			break
		}
	}
	if count != 2 {
		t.Error(count)
	}
}

func TestWords(t *testing.T) {
	for _, c := range []struct{ line, want string }{
		{"", `[]`},
		{"   ", `[]`},
		{"a", `["a"]`},
		{"  a bc   d ", `["a" "bc" "d"]`},
		{"a\tb \r \u00a0", `["a\tb" "\r" "\u00a0"]`},
		{"\xff \x20\xe2\x80", `["\xff" "\xe2\x80"]`},
	} {
		if got := fmt.Sprintf("%q", texts.Words(c.line)); got != c.want {
			t.Errorf("%q: %s, not %s", c.line, got, c.want)
		}
	}
}

func TestNumber(t *testing.T) {
	for _, c := range []struct {
		text string
		want int
	}{{"0", 0}, {"7", 7}, {"-1", -1}, {"120", 120}, {"9223372036854775807", 9223372036854775807}, {"-9223372036854775808", -9223372036854775808}} {
		if n, ok := texts.Number(c.text); n != c.want || !ok {
			t.Errorf("%q: %d, %v", c.text, n, ok)
		}
	}
	for _, text := range []string{"", "-", "+1", "-0", "00", "01", "-01", "1 ", " 1", "1_0", "0x1", "1.", "١", "a", "9223372036854775808", "-9223372036854775809"} {
		if n, ok := texts.Number(text); n != 0 || ok {
			t.Errorf("%q: %d, %v", text, n, ok)
		}
	}
}
