package farm

import (
	"slices"
	"strconv"
	"strings"

	"testimony/api"
	"testimony/event"
	"testimony/linear"
	"testimony/texts"
)

const maxTitle = 1000

// Page writes a report.
func Page(r Report) (string, error) {
	text, err := event.Text(r.Events)
	if err != nil {
		return "", err
	}
	if r.Code < linear.Valid || r.Code > linear.Unknown || len(r.Order) > api.MaxOps || len(r.Title) > maxTitle {
		return "", api.ErrArg
	}
	var order []string
	for _, n := range r.Order {
		order = append(order, strconv.Itoa(n))
	}
	parts := []string{
		"<h1>", escaped(r.Title), "</h1>\n",
		"<p>", codeNames()[r.Code], " ", strconv.Itoa(r.Entered), "</p>\n",
		"<p>", strings.Join(order, " "), "</p>\n",
		"<pre>\n", text, "</pre>\n",
	}
	return strings.Join(parts, ""), nil
}

func codeNames() []string {
	return []string{linear.Valid: "valid", linear.Invalid: "invalid", linear.Unknown: "unknown"}
}

// escape is a sign that a title can't have as it is, and how it is written.
type escape struct{ plain, written string }

// escapes has & first: it is a part of how all are written.
func escapes() []escape {
	return []escape{{"&", "&amp;"}, {"<", "&lt;"}, {">", "&gt;"}, {`"`, "&#34;"}, {"'", "&#39;"}}
}

func escaped(title string) string {
	for _, e := range escapes() {
		title = strings.ReplaceAll(title, e.plain, e.written)
	}
	return title
}

// unescaped goes the other way, and so from the last one on.
func unescaped(title string) string {
	for _, e := range slices.Backward(escapes()) {
		title = strings.ReplaceAll(title, e.written, e.plain)
	}
	return title
}

// Read reads what Page writes. ErrForm: it isn't so.
func Read(page string) (Report, error) {
	if len(page) > api.MaxText {
		return Report{}, api.ErrForm
	}
	r, ok := readParts(page)
	if !ok || strings.Contains(r.Title, "\n") {
		return Report{}, api.ErrForm
	}
	// The parts are read freely: whether Page writes them so, Page itself tells.
	if again, err := Page(r); err != nil || again != page {
		return Report{}, api.ErrForm
	}
	return r, nil
}

// readParts is what a page's parts tell, one behind the other.
func readParts(page string) (Report, bool) {
	title, rest, titleOk := between(page, "<h1>", "</h1>\n")
	verdict, rest, verdictOk := between(rest, "<p>", "</p>\n")
	order, rest, orderOk := between(rest, "<p>", "</p>\n")
	text, _, textOk := between(rest, "<pre>\n", "</pre>\n")
	if !titleOk || !verdictOk || !orderOk || !textOk {
		return Report{}, false
	}
	v, ok := readVerdict(verdict, order)
	l, err := event.Parse(text)
	if !ok || err != nil {
		return Report{}, false
	}
	return Report{Title: unescaped(title), Events: l, Verdict: v}, true
}

// between is what stands in a text from its beginning to the first end, and what is behind that.
func between(text, begin, end string) (part, rest string, ok bool) {
	text, ok = strings.CutPrefix(text, begin)
	if !ok {
		return "", "", false
	}
	return strings.Cut(text, end)
}

// readVerdict is what the two lines tell that a page has of it.
func readVerdict(verdict, order string) (linear.Verdict, bool) {
	name, entered, _ := strings.Cut(verdict, " ")
	v := linear.Verdict{Code: slices.Index(codeNames(), name)}
	n, ok := texts.Number(entered)
	if !ok {
		return linear.Verdict{}, false
	}
	v.Entered = n
	if order != "" {
		v.Order, ok = numbers(order)
	}
	return v, ok
}

// numbers are those of a text, one at least, with one blank between.
func numbers(text string) ([]int, bool) {
	var l []int
	for _, word := range strings.Split(text, " ") {
		n, ok := texts.Number(word)
		if !ok {
			return nil, false
		}
		l = append(l, n)
	}
	return l, true
}
