package merge

import (
	"maps"
	"slices"

	"testimony/api"
)

// Tag is what makes each putting in another one: who did it, and how many it did.
type Tag struct{ Place, Number int }

// Things is a set: each thing by tags, and tags that are gone; its zero value is empty.
type Things struct {
	// A tag that is gone stays, with its thing: otherwise its number would be given again, and one who still has it would bring it back.
	tags map[Tag]mark
}

// mark is what is known of a tag: its thing, and whether it is gone.
type mark struct {
	thing int
	gone  bool
}

// copied has the same tags in a map of its own, into which may be written.
func (t Things) copied() Things {
	tags := make(map[Tag]mark, len(t.tags))
	maps.Copy(tags, t.tags)
	return Things{tags}
}

// next is the tag of what is put in at a place now.
func (t Things) next(place int) Tag {
	greatest := 0
	for tag := range t.tags {
		if tag.Place == place {
			greatest = max(greatest, tag.Number)
		}
	}
	return Tag{Place: place, Number: greatest + 1}
}

// Put puts a thing in at a place.
func (t Things) Put(place, thing int) (Things, error) {
	if !isPlace(place) || !isNumber(thing) {
		return t, api.ErrRange
	}
	more := t.copied()
	more.tags[t.next(place)] = mark{thing: thing}
	return more, nil
}

// Drop takes a thing out, as far as it is known here.
func (t Things) Drop(thing int) Things {
	less := t.copied()
	for tag, known := range t.tags {
		if known.thing == thing {
			less.tags[tag] = mark{thing: thing, gone: true}
		}
	}
	return less
}

// Has says whether a thing is in it.
func (t Things) Has(thing int) bool {
	for _, known := range t.tags {
		if known.thing == thing && !known.gone {
			return true
		}
	}
	return false
}

// List is what is in it, rising.
func (t Things) List() []int {
	var list []int
	for _, known := range t.tags {
		if !known.gone {
			list = append(list, known.thing)
		}
	}
	slices.Sort(list)
	return slices.Compact(list)
}

// Join knows what the one or the other knows.
func (t Things) Join(u Things) Things {
	both := t.copied()
	for tag, known := range u.tags {
		known.gone = known.gone || t.tags[tag].gone
		both.tags[tag] = known
	}
	return both
}

// Same says whether two know the same.
func (t Things) Same(u Things) bool { return maps.Equal(t.tags, u.tags) }
