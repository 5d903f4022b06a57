package farm_test

import (
	"math"
	"reflect"
	"slices"
	"strings"
	"testing"

	"testimony/api"
	"testimony/event"
	"testimony/farm"
	"testimony/linear"
)

// told is a report of an event.
func told(title string, code, entered int, order ...int) farm.Report {
	l := []event.Event{{Proc: 1, Type: event.Ok, Key: 2, Kind: api.Swap, A: -3, B: 4, Result: 1}}
	return farm.Report{Title: title, Events: l, Verdict: linear.Verdict{Code: code, Order: order, Entered: entered}}
}

// pageOf is a page as the chapter tells it.
func pageOf(title, verdict, order, text string) string {
	return "<h1>" + title + "</h1>\n<p>" + verdict + "</p>\n<p>" + order + "</p>\n<pre>\n" + text + "</pre>\n"
}

const toldText = "1 ok swap 2 -3 4 1\n"

func sameReport(a, b farm.Report) bool {
	return a.Title == b.Title && slices.Equal(a.Events, b.Events) && a.Code == b.Code && slices.Equal(a.Order, b.Order) && a.Entered == b.Entered
}

// 20.4: what is written, and read again.
func TestPage(t *testing.T) {
	many := make([]int, api.MaxOps)
	for _, c := range []struct {
		report farm.Report
		want   string
	}{
		{farm.Report{Verdict: linear.Verdict{Code: linear.Valid}}, pageOf("", "valid 0", "", "")},
		{told("a title", linear.Valid, 7, 0, 2, 1), pageOf("a title", "valid 7", "0 2 1", toldText)},
		{told(" ", linear.Invalid, 1000000), pageOf(" ", "invalid 1000000", "", toldText)},
		{told("x", linear.Unknown, 0, 5), pageOf("x", "unknown 0", "5", toldText)},
		// Numbers may be any, and an order that of an invalid one.
		{told("x", linear.Invalid, -1, -5, math.MaxInt, math.MinInt), pageOf("x", "invalid -1", "-5 9223372036854775807 -9223372036854775808", toldText)},
		{told("x", linear.Valid, math.MinInt), pageOf("x", "valid -9223372036854775808", "", toldText)},
		{told("x", linear.Valid, 1, many...), pageOf("x", "valid 1", strings.TrimSuffix(strings.Repeat("0 ", api.MaxOps), " "), toldText)},
		{told(`a<b>&"c"'d'`, linear.Valid, 1), pageOf("a&lt;b&gt;&amp;&#34;c&#34;&#39;d&#39;", "valid 1", "", toldText)},
		{told("&amp;&lt;&#34;&&;", linear.Valid, 1), pageOf("&amp;amp;&amp;lt;&amp;#34;&amp;&amp;;", "valid 1", "", toldText)},
		{told("</h1><p>", linear.Valid, 1), pageOf("&lt;/h1&gt;&lt;p&gt;", "valid 1", "", toldText)},
		{told("\r\t\x00\xffé\u2028", linear.Valid, 1), pageOf("\r\t\x00\xffé\u2028", "valid 1", "", toldText)},
		{told(strings.Repeat("x", 1000), linear.Valid, 1), pageOf(strings.Repeat("x", 1000), "valid 1", "", toldText)},
		{told(strings.Repeat("'", 1000), linear.Valid, 1), pageOf(strings.Repeat("&#39;", 1000), "valid 1", "", toldText)},
	} {
		if got, err := farm.Page(c.report); got != c.want || err != nil {
			t.Errorf("%v: %q, %v, not %q", c.report, got, err, c.want)
		}
		if got, err := farm.Read(c.want); !sameReport(got, c.report) || err != nil {
			t.Errorf("%q: %v, %v, not %v", c.want, got, err, c.report)
		}
	}
}

// 20.4: as many events as there may be, each as long as it may be.
func TestPageFull(t *testing.T) {
	e := event.Event{Proc: 7, Type: event.Ok, Key: 7, Kind: api.Unlock, A: -api.MaxNumber, B: -api.MaxNumber, Result: -api.MaxNumber}
	r := told(strings.Repeat("&", 1000), linear.Invalid, math.MinInt, slices.Repeat([]int{math.MinInt}, api.MaxOps)...)
	r.Events = slices.Repeat([]event.Event{e}, api.MaxEvents)
	page, err := farm.Page(r)
	if err != nil || len(page) > api.MaxText {
		t.Fatal(len(page), err)
	}
	if got, err := farm.Read(page); !sameReport(got, r) || err != nil {
		t.Error(got, err)
	}
}

// 20.4: a title with a line feed is written, but not read again.
func TestPageLineFeed(t *testing.T) {
	for _, title := range []string{"\n", "a\nb", "a\n", "\n</h1>\n"} {
		page, err := farm.Page(told(title, linear.Valid, 1))
		written := strings.NewReplacer("<", "&lt;", ">", "&gt;").Replace(title)
		if err != nil || page != pageOf(written, "valid 1", "", toldText) {
			t.Errorf("%q: %q, %v", title, page, err)
		}
		checkUnread(t, page)
	}
}

// 20.4: what is wrong with a report; what Text says is told first.
func TestPageErrors(t *testing.T) {
	change := func(f func(*farm.Report)) farm.Report {
		r := told("x", linear.Valid, 1, 0)
		f(&r)
		return r
	}
	for _, c := range []struct {
		report farm.Report
		want   api.Errno
		place  int
	}{
		{farm.Report{}, api.ErrArg, nowhere},
		{change(func(r *farm.Report) { r.Code = 0 }), api.ErrArg, nowhere},
		{change(func(r *farm.Report) { r.Code = 4 }), api.ErrArg, nowhere},
		{change(func(r *farm.Report) { r.Code = -1 }), api.ErrArg, nowhere},
		{change(func(r *farm.Report) { r.Code = math.MaxInt }), api.ErrArg, nowhere},
		{change(func(r *farm.Report) { r.Order = make([]int, api.MaxOps+1) }), api.ErrArg, nowhere},
		{change(func(r *farm.Report) { r.Title = strings.Repeat("x", 1001) }), api.ErrArg, nowhere},
		{change(func(r *farm.Report) { r.Events = make([]event.Event, api.MaxEvents+1) }), api.ErrLimit, nowhere},
		{change(func(r *farm.Report) { r.Events = append(r.Events, event.Event{Kind: api.Read}) }), api.ErrArg, 1},
		{change(func(r *farm.Report) { r.Events[0].Proc, r.Code = 8, 0 }), api.ErrRange, 0},
		{change(func(r *farm.Report) {
			r.Events, r.Title = make([]event.Event, api.MaxEvents+1), strings.Repeat("x", 1001)
		}), api.ErrLimit, nowhere},
	} {
		if page, err := farm.Page(c.report); page != "" || !isFault(err, c.want, c.place) {
			t.Errorf("%.200v: %q, %#v, not %v at %d", c.report, page, err, c.want, c.place)
		}
	}
}

func checkUnread(t *testing.T, page string) {
	t.Helper()
	if r, err := farm.Read(page); err != error(api.ErrForm) || !reflect.DeepEqual(r, farm.Report{}) {
		t.Errorf("%.300q: %v, %#v", page, r, err)
	}
}

// 20.4: what no report makes.
func TestReadErrors(t *testing.T) {
	good := pageOf("x", "valid 1", "0 1", toldText)
	if r, err := farm.Read(good); !sameReport(r, told("x", linear.Valid, 1, 0, 1)) || err != nil {
		t.Fatal(r, err)
	}
	for _, page := range []string{
		"", "\n", "x", good + "\n", good + " ", "\n" + good, " " + good, good + good, strings.TrimSuffix(good, "\n"), strings.ReplaceAll(good, "\n", "\r\n"), strings.ToUpper(good),
		strings.Replace(good, "<h1>x</h1>\n", "", 1), strings.Replace(good, "<p>0 1</p>\n", "", 1), strings.Replace(good, "<pre>\n", "<pre>", 1), strings.Replace(good, "</h1>\n", "</h1>", 1), strings.Replace(good, "</p>\n", "</p>\n\n", 1),
		// The title.
		pageOf("<", "valid 1", "", ""), pageOf(">", "valid 1", "", ""), pageOf(`"`, "valid 1", "", ""), pageOf("'", "valid 1", "", ""), pageOf("&", "valid 1", "", ""), pageOf("&amp", "valid 1", "", ""), pageOf("&quot;", "valid 1", "", ""), pageOf("&#39", "valid 1", "", ""), pageOf("&#60;", "valid 1", "", ""), pageOf("&LT;", "valid 1", "", ""),
		pageOf("a</h1>", "valid 1", "", ""), pageOf("a</h1>\n", "valid 1", "", ""), pageOf("a\nb", "valid 1", "", ""), pageOf(strings.Repeat("x", 1001), "valid 1", "", ""), pageOf(strings.Repeat("&lt;", 1001), "valid 1", "", ""),
		// The verdict.
		pageOf("x", "", "", ""), pageOf("x", "valid", "", ""), pageOf("x", "valid ", "", ""), pageOf("x", " 1", "", ""), pageOf("x", "1", "", ""), pageOf("x", "Valid 1", "", ""), pageOf("x", "val 1", "", ""), pageOf("x", "valid  1", "", ""), pageOf("x", "valid 1 ", "", ""), pageOf("x", " valid 1", "", ""), pageOf("x", "valid 01", "", ""), pageOf("x", "valid +1", "", ""), pageOf("x", "valid -0", "", ""), pageOf("x", "valid 1 1", "", ""), pageOf("x", "valid x", "", ""), pageOf("x", "valid 9223372036854775808", "", ""), pageOf("x", "valid\t1", "", ""),
		// The order.
		pageOf("x", "valid 1", " ", ""), pageOf("x", "valid 1", "0 ", ""), pageOf("x", "valid 1", " 0", ""), pageOf("x", "valid 1", "0  1", ""), pageOf("x", "valid 1", "00", ""), pageOf("x", "valid 1", "0,1", ""), pageOf("x", "valid 1", "0\n1", ""), pageOf("x", "valid 1", "x", ""), pageOf("x", "valid 1", "9223372036854775808", ""), pageOf("x", "valid 1", strings.Repeat("0 ", 40)+"0", ""),
		// The events.
		pageOf("x", "valid 1", "", "\n"), pageOf("x", "valid 1", "", "x\n"), pageOf("x", "valid 1", "", strings.TrimSuffix(toldText, "\n")), pageOf("x", "valid 1", "", " "+toldText), pageOf("x", "valid 1", "", toldText+"\n"), pageOf("x", "valid 1", "", strings.Replace(toldText, " ", "  ", 1)), pageOf("x", "valid 1", "", strings.Replace(toldText, "swap", "swop", 1)), pageOf("x", "valid 1", "", strings.Replace(toldText, "1 ok", "8 ok", 1)), pageOf("x", "valid 1", "", strings.Replace(toldText, "ok", "fail", 1)), pageOf("x", "valid 1", "", strings.Repeat(toldText, 121)),
	} {
		checkUnread(t, page)
	}
	checkUnread(t, strings.Repeat("x", api.MaxText+1))
	checkUnread(t, pageOf("x", "valid 1", "", strings.Repeat(" ", api.MaxText)))
}

// P4: what is read is the caller's.
func TestReadMemory(t *testing.T) {
	page := pageOf("x", "valid 1", "0 1", toldText+toldText)
	a, _ := farm.Read(page)
	b, _ := farm.Read(page)
	a.Events[0].Proc, a.Order[0] = 7, 7
	_, _ = append(a.Events[:1], a.Events[0]), append(a.Order[:1], 7)
	if got, err := farm.Page(b); got != page || err != nil {
		t.Error(got, err)
	}
}
