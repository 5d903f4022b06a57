package gen_test

import (
	"strings"
	"testing"

	"testimony/api"
	"testimony/gen"
)

// checkFault asks whether Parse tells want at that place, and no generator.
func checkFault(t *testing.T, text string, want api.Errno, place int) {
	t.Helper()
	g, err := gen.Parse(text)
	at, ok := err.(*api.At)
	if g != nil || !ok || at == nil || *at != (api.At{Err: want, Place: place}) {
		t.Errorf("%.100q: %v, %#v, not %v at %d", text, g, err, want, place)
	}
}

func checkRead(t *testing.T, text string) {
	t.Helper()
	if g, err := gen.Parse(text); g == nil || err != nil {
		t.Errorf("%.100q: %v, %v", text, g, err)
	}
}

// 19.2: texts that are generators.
func TestParse(t *testing.T) {
	for _, text := range []string{
		"read 0", "read 7", "  read   3  ", "write 0 1 5", "write 7 -1000000 1000000", "write 0 -5 -5", "write 0 0 0",
		"write 0 1000000 1000000", "write 0 -1000000 -1000000",
		"limit 0 read 0", "limit 1000 read 0", "limit 2 limit 5 read 0", "limit 2 mix (read 0, read 1)",
		"mix (read 0)", "mix(read 0)", "mix(read 0,read 1)", "mix ( read 0 , read 1 ) ", "mix (mix (read 0), then (read 1))",
		"then (read 0)", "then(then(then(read 0)),write 1 2 3,limit 4 read 5)",
	} {
		checkRead(t, text)
	}
}

// 19.2: a sign that can't stand there, or none at all.
func TestParseForm(t *testing.T) {
	for _, c := range []struct {
		text  string
		place int
	}{
		{"", 0}, {" ", 1}, {"   ", 3}, {"x", 0}, {"  x y", 2}, {"(", 0}, {")", 0}, {",", 0}, {" ( read 0 )", 1}, {"0", 0},
		{"read", 4}, {"read ", 5}, {"read x", 5}, {"read (", 5}, {"read(0)", 4}, {"read,0", 4}, {"read 0 1", 7}, {"read 0)", 6}, {"read 0,", 6}, {"read 0 read 0", 7}, {"read read 0", 5},
		{"write", 5}, {"write 0", 7}, {"write 0 1", 9}, {"write 0 1 ", 10}, {"write 0 1 2 3", 12}, {"write x 1 2", 6}, {"write 0 x 2", 8}, {"write 0 1 x", 10}, {"write 0 1, 2", 9},
		{"limit", 5}, {"limit 3", 7}, {"limit x read 0", 6}, {"limit read 0", 6}, {"limit 3 read", 12}, {"limit 3 (read 0)", 8}, {"limit 3 4 read 0", 8}, {"limit 3 read 0 1", 15},
		{"mix", 3}, {"mix read 0", 4}, {"mix )", 4}, {"mix (", 5}, {"mix ()", 5}, {"mix (,", 5}, {"mix (read 0", 11}, {"mix (read 0 ", 12}, {"mix (read 0 read 1)", 12}, {"mix(read 0,)", 11}, {"mix(read 0,,read 1)", 11}, {"mix (read 0) )", 13}, {"mix (read 0), read 1", 12}, {"mix ((read 0))", 5}, {"mix (read 0(", 11},
		{"then", 4}, {"then read 0", 5}, {"then ()", 6}, {"then (read 0", 12}, {"then (read 0,", 13}, {"then (read 0) x", 14},
		// Names are just so.
		{"MIX (read 0)", 0}, {"Read 0", 0}, {"reads 0", 0}, {"rea 0", 0}, {"read0", 0},
		// A blank is one byte alone: others are parts of words.
		{"read\t0", 0}, {"read 0\n", 5}, {"\nread 0", 0}, {"read 0\r", 5}, {"read\u00a00", 0}, {"read 0\x00", 5}, {"\xff", 0}, {"read \xff(", 5},
	} {
		checkFault(t, c.text, api.ErrForm, c.place)
	}
}

// 19.2: what is a number.
func TestParseNumbers(t *testing.T) {
	for _, word := range []string{"-", "--1", "+1", "00", "01", "-0", "-01", "007", "1x", "x1", "1-", "0x1", "1_0", "1.0", "1e2", "٣", "-00000000000000000000000000000001", "+99999999999999999999", "0099999999999999999999", "99999999999999999999x"} {
		checkFault(t, "read "+word, api.ErrForm, 5)
		checkFault(t, "write 0 "+word+" 3", api.ErrForm, 8)
		checkFault(t, "write 0 0 "+word, api.ErrForm, 10)
		checkFault(t, "limit "+word+" read 0", api.ErrForm, 6)
	}
	// However long it is.
	for _, word := range []string{"99999999999999999999", "-99999999999999999999", "9223372036854775807", "9223372036854775808", "-9223372036854775808", "-9223372036854775809", "1" + strings.Repeat("0", 1900)} {
		checkFault(t, "read "+word, api.ErrRange, 5)
		checkFault(t, "write 0 "+word+" 3", api.ErrRange, 8)
		checkFault(t, "write 0 0 "+word, api.ErrRange, 10)
		checkFault(t, "limit "+word+" read 0", api.ErrRange, 6)
	}
}

// 19.2: numbers that are beyond.
func TestParseRange(t *testing.T) {
	for _, c := range []struct {
		text  string
		place int
	}{
		{"read 8", 5}, {"read -1", 5}, {"read  8 9", 6}, {"write 8 1 2", 6}, {"write -1 1 2", 6},
		{"write 0 -1000001 2", 8}, {"write 0 1000001 1000002", 8}, {"write 0 1000001", 8}, {"write 0 1 1000001", 10}, {"write 0 5 4", 10}, {"write 0 -5 -6", 11}, {"write 0 1000000 999999", 16},
		{"limit -1 read 0", 6}, {"limit 1001 read 0", 6}, {"limit 1001", 6}, {"limit 1001 x", 6},
		{"mix (read 0, read 8", 18}, {"limit 2 read 8 9 9", 13},
	} {
		checkFault(t, c.text, api.ErrRange, c.place)
	}
	// What is wrong further left is told.
	checkFault(t, "read x 8", api.ErrForm, 5)
	checkFault(t, "mix (x, read 8)", api.ErrForm, 5)
}

// 19.2: at most 19 stand around one.
func TestParseAround(t *testing.T) {
	limits := func(n int) string { return strings.Repeat("limit 2 ", n) }
	lists := func(n int) string { return strings.Repeat("mix(", n) }
	ends := func(n int) string { return strings.Repeat(")", n) }
	checkRead(t, limits(19)+"read 0")
	checkRead(t, lists(19)+"read 0"+ends(19))
	checkRead(t, limits(9)+strings.Repeat("then (", 10)+"write 1 2 3, read 0"+ends(10))
	checkFault(t, limits(20)+"read 0", api.ErrLimit, 160)
	checkFault(t, limits(40)+"read 0", api.ErrLimit, 160)
	checkFault(t, lists(20)+"read 0"+ends(20), api.ErrLimit, 80)
	checkFault(t, limits(10)+lists(10)+" read 0"+ends(10), api.ErrLimit, 121)
	// Where one should begin, too.
	checkFault(t, limits(20), api.ErrLimit, 160)
	checkFault(t, limits(20)+" ", api.ErrLimit, 161)
	checkFault(t, limits(20)+"x", api.ErrLimit, 160)
	checkFault(t, lists(20)+")", api.ErrLimit, 80)
	checkFault(t, lists(20), api.ErrLimit, 80)
	// But not where something else should stand.
	checkFault(t, limits(19)+"limit", api.ErrForm, 157)
	checkFault(t, limits(19)+"limit x", api.ErrForm, 158)
	checkFault(t, limits(19)+"limit 1001 read 0", api.ErrRange, 158)
	checkFault(t, limits(19)+"mix read 0", api.ErrForm, 156)
	checkFault(t, limits(19), api.ErrForm, 152)
	// Those beside one do not stand around it.
	checkRead(t, "then ("+strings.Repeat("limit 1 read 0, ", 50)+"read 0)")
	checkFault(t, "mix ("+limits(18)+"read 0, "+limits(19)+"read 0)", api.ErrLimit, 5+18*8+8+19*8)
}

// 19.2: a text of more than 2,000 bytes has no place.
func TestParseLength(t *testing.T) {
	checkRead(t, "read 0"+strings.Repeat(" ", 1994))
	for _, text := range []string{"read 0" + strings.Repeat(" ", 1995), strings.Repeat("x", 2001), strings.Repeat("(", 30_000)} {
		if g, err := gen.Parse(text); g != nil || err != error(api.ErrLimit) {
			t.Errorf("%d bytes: %v, %#v", len(text), g, err)
		}
	}
	checkFault(t, strings.Repeat("x", 2000), api.ErrForm, 0)
	checkFault(t, strings.Repeat(" ", 2000), api.ErrForm, 2000)
}
