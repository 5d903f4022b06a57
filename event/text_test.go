package event_test

import (
	"math/rand"
	"slices"
	"strings"
	"testing"

	"testimony/api"
	"testimony/event"
)

// Promise 1.4: every name and every number, as it is written.
func TestText(t *testing.T) {
	types := strings.Fields("invoke ok fail info")
	kinds := strings.Fields("read write swap add get put drop has push pop lock unlock")
	for i, what := range types {
		for j, kind := range kinds {
			e := event.Event{Proc: 7, Type: event.Invoke + i, Kind: api.Read + j, Key: 6, A: -5, B: 40}
			got, err := event.Text([]event.Event{e})
			wantError(t, err, api.OK, nowhere)
			if want := "7 " + what + " " + kind + " 6 -5 40 0\n"; got != want {
				t.Errorf("%q, not %q", got, want)
			}
		}
	}
}

// Promise 1.4.
func TestTextOfSeveral(t *testing.T) {
	got, err := event.Text(nil)
	wantError(t, err, api.OK, nowhere)
	if got != "" {
		t.Errorf("%q of nothing", got)
	}
	got, err = event.Text([]event.Event{
		{Proc: 0, Type: event.Invoke, Kind: api.Write, A: 1},
		{Proc: 0, Type: event.Ok, Kind: api.Write, A: 1, Result: -api.MaxNumber},
	})
	wantError(t, err, api.OK, nowhere)
	if want := "0 invoke write 0 1 0 0\n0 ok write 0 1 0 -1000000\n"; got != want {
		t.Errorf("%q, not %q", got, want)
	}
}

// Promise 1.4: what Check says, at the event's number; it need not be what Ops takes.
func TestTextErrors(t *testing.T) {
	for _, c := range checkCases {
		got, err := event.Text([]event.Event{begins(0, 1), took(3, 1, 0), changed(c.change), {}})
		if c.want == api.OK {
			wantError(t, err, api.ErrArg, 3)
		} else {
			wantError(t, err, c.want, 2)
		}
		if got != "" {
			t.Errorf("%q beside an error", got)
		}
	}
}

// Promise 1.4: as many events as may be, and one more.
func TestTextLimit(t *testing.T) {
	got, err := event.Text(pairs(api.MaxEvents))
	wantError(t, err, api.OK, nowhere)
	if n := strings.Count(got, "\n"); n != api.MaxEvents {
		t.Errorf("%d lines", n)
	}
	l := pairs(api.MaxEvents + 1)
	l[0] = event.Event{}
	got, err = event.Text(l)
	wantError(t, err, api.ErrLimit, nowhere)
	if got != "" {
		t.Errorf("%q beside an error", got)
	}
}

// Promise 1.4: blanks and lines without words.
func TestParse(t *testing.T) {
	read := event.Event{Proc: 1, Type: event.Invoke, Key: 2, Kind: api.Read}
	add := event.Event{Proc: 3, Type: event.Ok, Key: 4, Kind: api.Add, A: -5, B: 6, Result: -api.MaxNumber}
	cases := []struct {
		name, in string
		want     []event.Event
	}{
		{"nothing", "", nil},
		{"a line feed", "\n", nil},
		{"blanks", "   ", nil},
		{"lines without words", "\n \n\n   \n", nil},
		{"one", "1 invoke read 2 0 0 0\n", []event.Event{read}},
		{"without its line feed", "1 invoke read 2 0 0 0", []event.Event{read}},
		{"several blanks", "  1   invoke read  2 0 0    0   \n", []event.Event{read}},
		{"several", "1 invoke read 2 0 0 0\n3 ok add 4 -5 6 -1000000\n", []event.Event{read, add}},
		{"lines between", "\n\n 1 invoke read 2 0 0 0\n  \n\n3 ok add 4 -5 6 -1000000 \n\n ", []event.Event{read, add}},
		{"not what Ops takes", "3 ok add 4 -5 6 -1000000\n1 invoke read 2 0 0 0\n1 invoke read 2 0 0 0", []event.Event{add, read, read}},
	}
	for _, c := range cases {
		t.Run(c.name, func(t *testing.T) {
			got, err := event.Parse(c.in)
			wantError(t, err, api.OK, nowhere)
			if !slices.Equal(got, c.want) {
				t.Errorf("%v, not %v", got, c.want)
			}
		})
	}
}

// lineErrors are lines, and what Parse says of each.
var lineErrors = []struct {
	line string
	want api.Errno
}{
	{"x", api.ErrForm},
	{"0 invoke read 0 0 0", api.ErrForm},
	{"0 invoke read 0 0 0 0 0", api.ErrForm},
	{"x invoke read 0 0 0 0", api.ErrForm},
	{"0 invoke read x 0 0 0", api.ErrForm},
	{"0 invoke read 0 x 0 0", api.ErrForm},
	{"0 invoke read 0 0 x 0", api.ErrForm},
	{"0 invoke read 0 0 0 x", api.ErrForm},
	{"0 invoke read 0 00 0 0", api.ErrForm},
	{"0 invoke read 0 01 0 0", api.ErrForm},
	{"0 invoke read 0 -01 0 0", api.ErrForm},
	{"0 invoke read 0 -0 0 0", api.ErrForm},
	{"-0 invoke read 0 0 0 0", api.ErrForm},
	{"0 invoke read 0 +1 0 0", api.ErrForm},
	{"0 invoke read 0 - 0 0", api.ErrForm},
	{"0 invoke read 0 --1 0 0", api.ErrForm},
	{"0 invoke read 0 1- 0 0", api.ErrForm},
	{"0 invoke read 0 0x1 0 0", api.ErrForm},
	{"0 invoke read 0 1_000 0 0", api.ErrForm},
	{"0 invoke read 0 1e3 0 0", api.ErrForm},
	{"0 invoke read 0 1.0 0 0", api.ErrForm},
	{"0 invoke read 0 \u0661 0 0", api.ErrForm},
	{"0 invoke read 0 9223372036854775808 0 0", api.ErrForm},
	{"0 invoke read 0 -9223372036854775809 0 0", api.ErrForm},
	{"0 invoke read 0 18446744073709551616 0 0", api.ErrForm},
	{"0 invoke read 0 99999999999999999999999999999999 0 0", api.ErrForm},
	{"0\tinvoke\tread\t0\t0\t0\t0", api.ErrForm},
	{"0 invoke read 0 0 0 0\r", api.ErrForm},
	{"0 invoke read 0 0 0 0\u00a00", api.ErrForm},
	{"0 invoke read 0 0 0 0 \t", api.ErrForm},
	{"\r", api.ErrForm},
	{"\t", api.ErrForm},
	{"\x00", api.ErrForm},
	{"\xff\xfe invoke read 0 0 0 0", api.ErrForm},
	{"x begin find 9 0 0 0", api.ErrForm},
	{"9 invoke read 0 0 0 x", api.ErrForm},
	{"0 begin read 0 0 0 0", api.ErrName},
	{"0 Invoke read 0 0 0 0", api.ErrName},
	{"0 invok read 0 0 0 0", api.ErrName},
	{"0 invokes read 0 0 0 0", api.ErrName},
	{"0 1 read 0 0 0 0", api.ErrName},
	{"0 invoke find 0 0 0 0", api.ErrName},
	{"0 invoke READ 0 0 0 0", api.ErrName},
	{"0 invoke 1 0 0 0 0", api.ErrName},
	{"0 read invoke 0 0 0 0", api.ErrName},
	{"0 invoke ok 0 0 0 0", api.ErrName},
	{"0 \x00 read 0 0 0 0", api.ErrName},
	{"0 invoke\t read 0 0 0 0", api.ErrName},
	{"9 begin read 0 0 0 0", api.ErrName},
	{"9 invoke find 0 0 0 1", api.ErrName},
	{"8 invoke read 0 0 0 0", api.ErrRange},
	{"-1 invoke read 0 0 0 0", api.ErrRange},
	{"0 invoke read 8 0 0 0", api.ErrRange},
	{"0 invoke read -1 0 0 0", api.ErrRange},
	{"0 invoke read 0 1000001 0 0", api.ErrRange},
	{"0 invoke read 0 0 -1000001 0", api.ErrRange},
	{"0 ok read 0 0 0 1000001", api.ErrRange},
	{"0 invoke read 0 9223372036854775807 0 0", api.ErrRange},
	{"0 invoke read 0 -9223372036854775808 0 0", api.ErrRange},
	{"0 invoke read 0 4294967296 0 0", api.ErrRange},
	{"0 invoke read 8 0 0 1", api.ErrRange},
	{"0 invoke read 0 0 0 1", api.ErrArg},
	{"0 fail read 0 0 0 -1", api.ErrArg},
	{"0 info read 0 0 0 1", api.ErrArg},
}

// Promise 1.4: what is wrong, at the first byte of the line, blanks of its own counted; the first line's error, whatever is behind it.
func TestParseErrors(t *testing.T) {
	for _, c := range lineErrors {
		for _, ahead := range []string{"", "\n", " \n\n", "0 invoke read 0 0 0 0\n", " 7 ok pop 0 0 0 -1 \n  \n"} {
			for _, end := range []string{"", "\n", " \n", "\nx y\n9 info", "\n0 ok read 0 0 0 0"} {
				for _, blanks := range []string{"", "   "} {
					text := ahead + blanks + c.line + end
					got, err := event.Parse(text)
					if wantError(t, err, c.want, len(ahead)); len(got) != 0 || t.Failed() {
						t.Fatalf("%q: %v beside %v", text, got, err)
					}
				}
			}
		}
	}
}

// Promise 1.4: texts of as many bytes as may be, and of one more.
func TestParseLimitOfBytes(t *testing.T) {
	line := "0 invoke read 0 0 0 0"
	text := strings.Repeat(" ", api.MaxText-len(line)) + line
	got, err := event.Parse(text)
	wantError(t, err, api.OK, nowhere)
	if len(got) != 1 {
		t.Errorf("%v", got)
	}
	got, err = event.Parse(text + " ")
	wantError(t, err, api.ErrLimit, nowhere)
	if len(got) != 0 {
		t.Errorf("%v beside an error", got)
	}
	_, err = event.Parse(strings.Repeat("x", api.MaxText+1))
	wantError(t, err, api.ErrLimit, nowhere)
	_, err = event.Parse(strings.Repeat("x", api.MaxText))
	wantError(t, err, api.ErrForm, 0)
}

// Promise 1.4: as many events as may be; one more is told at its line, behind all else that is wrong with it.
func TestParseLimitOfEvents(t *testing.T) {
	text, err := event.Text(pairs(api.MaxEvents))
	wantError(t, err, api.OK, nowhere)
	got, err := event.Parse(text + "  \n\n")
	wantError(t, err, api.OK, nowhere)
	if len(got) != api.MaxEvents {
		t.Errorf("%d events", len(got))
	}
	for line, want := range map[string]api.Errno{
		"0 invoke read 0 0 0 0": api.ErrLimit,
		"0 invoke read 0 0 0":   api.ErrForm,
		"0 begin read 0 0 0 0":  api.ErrName,
		"0 invoke read 9 0 0 0": api.ErrRange,
		"0 invoke read 0 0 0 9": api.ErrArg,
	} {
		got, err = event.Parse(text + " \n  " + line + "\nx")
		wantError(t, err, want, len(text)+2)
		if len(got) != 0 {
			t.Errorf("%v beside an error", got)
		}
	}
}

// Promise 1.4: Parse reads what Text writes, with more blanks, too.
func TestParseReadsText(t *testing.T) {
	r := rand.New(rand.NewSource(2))
	for range 300 {
		l := drawn(r, api.MaxEvents)
		text, err := event.Text(l)
		wantError(t, err, api.OK, nowhere)
		wide := strings.ReplaceAll(strings.ReplaceAll(text, " ", "  "), "\n", " \n \n ")
		for _, s := range []string{text, wide, strings.TrimSuffix(text, "\n")} {
			got, err := event.Parse(s)
			wantError(t, err, api.OK, nowhere)
			if !slices.Equal(got, l) {
				t.Fatalf("%v of %q, not %v", got, s, l)
			}
		}
	}
}

// P1: whatever is given, Parse ends, and what it takes is what Text writes.
func FuzzParse(f *testing.F) {
	for _, c := range lineErrors {
		f.Add(c.line)
	}
	f.Add(" 1 invoke read 2 0 0 0\n\n3 ok add 4 -5 6 -1000000 \n")
	f.Fuzz(func(t *testing.T, text string) {
		l, err := event.Parse(text)
		if err != nil {
			return
		}
		s, err := event.Text(l)
		wantError(t, err, api.OK, nowhere)
		again, err := event.Parse(s)
		wantError(t, err, api.OK, nowhere)
		if !slices.Equal(again, l) {
			t.Errorf("%v, not %v", again, l)
		}
	})
}
