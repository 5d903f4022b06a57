package farm

import (
	"slices"
	"strings"

	"testimony/api"
	"testimony/gen"
	"testimony/store"
	"testimony/texts"
)

const usualBudget = 10_000

// Parse reads a plan, line by line. Errors are an At at the line's first byte, or (something is missing) at the text's length.
func Parse(text string) (Plan, error) {
	if len(text) > api.MaxText {
		return Plan{}, api.ErrLimit
	}
	p := Plan{Setup: store.Setup{Back: true}, Budget: usualBudget}
	told := map[string]struct{}{}
	for place, line := range texts.Lines(text) {
		if line == "" {
			continue
		}
		name, rest, _ := strings.Cut(line, " ")
		n := p.hear(name, rest)
		if _, twice := told[name]; twice && n == api.OK {
			n = api.ErrTwice
		}
		if n != api.OK {
			return Plan{}, &api.At{Err: n, Place: place}
		}
		told[name] = struct{}{}
	}
	for _, name := range []string{"nodes", "clients", "quorum", "gen"} {
		if _, ok := told[name]; !ok {
			return Plan{}, &api.At{Err: api.ErrMissing, Place: len(text)}
		}
	}
	if err := store.Check(p.Setup); err != nil {
		return Plan{}, err
	}
	return p, nil
}

// hear takes what a line tells into the plan.
func (p *Plan) hear(name, rest string) api.Errno {
	switch name {
	case "title":
		p.Title = rest
	case "gen":
		p.Gen = rest
		_, err := gen.Parse(rest)
		return api.Tell(err)
	case "back":
		p.Back = rest == "yes"
		if !p.Back && rest != "no" {
			return api.ErrForm
		}
	case "nodes":
		return hearNumbers(rest, &p.Nodes)
	case "clients":
		return hearNumbers(rest, &p.Clients)
	case "quorum":
		return hearNumbers(rest, &p.Ask, &p.Tell)
	case "budget":
		return hearNumbers(rest, &p.Budget)
	default:
		return api.ErrName
	}
	return api.OK
}

// hearNumbers reads just as many numbers as there are places for them, with one blank between. Whatever is wrong with one is told ahead of what is wrong with the next one.
func hearNumbers(text string, places ...*int) api.Errno {
	words := strings.Split(text, " ")
	if len(words) != len(places) || slices.Contains(words, "") {
		return api.ErrForm
	}
	for i, word := range words {
		n, ok := texts.Number(word)
		if !ok {
			return api.ErrForm
		}
		if !isBudget(n) {
			return api.ErrRange
		}
		*places[i] = n
	}
	return api.OK
}
