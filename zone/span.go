package zone

import (
	"cmp"
	"slices"

	"testimony/api"
)

// span is what the ops that write or read a value tell of it.
type span struct {
	written   int // the Call of its write
	firstEnd  int // the least Return
	lastBegin int // the greatest Call
}

// with is the span with one more op, which reads the value.
func (s span) with(op api.Op) span {
	s.firstEnd = min(s.firstEnd, op.Return)
	s.lastBegin = max(s.lastBegin, op.Call)
	return s
}

// writtenSpans are those of all values, by their writes alone.
func writtenSpans(ops []api.Op) map[int]span {
	// No op writes 0: it is there ahead of all of them.
	spans := map[int]span{0: {written: -2, firstEnd: -1, lastBegin: -2}}
	for _, op := range ops {
		if op.Kind == api.Write {
			spans[op.A] = span{written: op.Call, firstEnd: op.Return, lastBegin: op.Call}
		}
	}
	return spans
}

// zonesOf are the zones, in an order that the map has no part in: no two times are the same, so no two have the same From.
func zonesOf(spans map[int]span) []Zone {
	zones := make([]Zone, 0, len(spans))
	for value, s := range spans {
		zones = append(zones, Zone{
			Value:   value,
			From:    min(s.firstEnd, s.lastBegin),
			To:      max(s.firstEnd, s.lastBegin),
			Forward: s.firstEnd < s.lastBegin,
		})
	}
	slices.SortFunc(zones, func(a, b Zone) int { return cmp.Compare(a.From, b.From) })
	return zones
}
