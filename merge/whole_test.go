package merge_test

import (
	"maps"
	"slices"
	"testing"

	"testimony/api"
	"testimony/merge"
)

// die: numbers that look drawn, the same each time.
type die uint64

func (d *die) n(most int) int {
	*d = *d*6364136223846793005 + 1442695040888963407
	return int(uint64(*d>>33) % uint64(most))
}

// known is 15.2 word by word: tags with their things, and tags that are gone, each in a list of its own.
type known struct {
	tags map[merge.Tag]int
	gone []merge.Tag
}

func (k known) put(place, thing int) known {
	number := 1
	for slices.ContainsFunc(slices.Collect(maps.Keys(k.tags)), func(tag merge.Tag) bool { return tag.Place == place && tag.Number >= number }) {
		number++
	}
	return k.join(known{tags: map[merge.Tag]int{{Place: place, Number: number}: thing}})
}

func (k known) drop(thing int) known {
	var gone []merge.Tag
	for tag, its := range k.tags {
		if its == thing {
			gone = append(gone, tag)
		}
	}
	return k.join(known{gone: gone})
}

func (k known) join(other known) known {
	tags := map[merge.Tag]int{}
	maps.Copy(tags, k.tags)
	maps.Copy(tags, other.tags)
	return known{tags, slices.Concat(k.gone, other.gone)}
}

func (k known) list() []int {
	var list []int
	for tag, thing := range k.tags {
		if !slices.Contains(k.gone, tag) && !slices.Contains(list, thing) {
			list = append(list, thing)
		}
	}
	slices.Sort(list)
	return list
}

func (k known) same(other known) bool {
	within := func(a, b []merge.Tag) bool {
		return !slices.ContainsFunc(a, func(tag merge.Tag) bool { return !slices.Contains(b, tag) })
	}
	return maps.Equal(k.tags, other.tags) && within(k.gone, other.gone) && within(other.gone, k.gone)
}

// 15.2: what is told is that of the promise's own words, also where several put in at one place.
func TestThingsArePlain(t *testing.T) {
	d := die(151)
	same, clash := 0, 0
	for range 3000 {
		var got [4]merge.Things
		var want [4]known
		things, places := 1+d.n(6), 1+d.n(api.MaxNodes)
		for range d.n(40) {
			n, m, thing, place := d.n(4), d.n(4), d.n(things)-2, d.n(places)
			switch d.n(5) {
			case 0, 1:
				got[n], _ = got[n].Put(place, thing)
				want[n] = want[n].put(place, thing)
			case 2:
				got[n] = got[n].Drop(thing)
				want[n] = want[n].drop(thing)
			default:
				got[n] = got[m].Join(got[n])
				want[n] = want[m].join(want[n])
			}
		}
		for n := range got {
			checkList(t, "drawn", got[n], want[n].list()...)
			for m := range got {
				alike := want[n].same(want[m])
				if got[n].Same(got[m]) != alike {
					t.Fatalf("%v, %v: not %v", got[n], got[m], alike)
				}
				if alike && n != m && len(want[n].gone) > 0 {
					same++
				}
				if !want[n].join(want[m]).same(want[m].join(want[n])) {
					clash++
				}
			}
		}
		if t.Failed() {
			return
		}
	}
	if min(same, clash) < 200 {
		t.Errorf("too few of a kind: %d are the same, %d know a tag with unlike things", same, clash)
	}
}

// checkLaws asks whether what is known comes together to the same: whichever way, once or twice, and nothing of it is lost.
func checkLaws[T merge.Joins[T]](t *testing.T, d *die, list []T) {
	t.Helper()
	for _, a := range list {
		for _, b := range list {
			both := a.Join(b)
			if !a.Join(a).Same(a) || !both.Same(b.Join(a)) || !both.Join(a).Same(both) || !b.Join(both).Same(both) {
				t.Fatalf("%v, %v: %v, %v", a, b, both, b.Join(a))
			}
			for _, c := range list {
				if !both.Join(c).Same(a.Join(b.Join(c))) {
					t.Fatalf("%v, %v, %v: %v, %v", a, b, c, both.Join(c), a.Join(b.Join(c)))
				}
			}
		}
	}
	want := merge.All(list[0], list[1:]...)
	for range 5 {
		other := slices.Concat(list, list)
		for n := len(list); n < len(other); n++ {
			other[n] = list[d.n(len(list))]
		}
		for n := range other {
			m := d.n(n + 1)
			other[n], other[m] = other[m], other[n]
		}
		if got := merge.All(other[0], other[1:]...); !got.Same(want) || !want.Same(got) {
			t.Fatalf("%v: %v, not %v", other, got, want)
		}
	}
}

// What is known comes together to the same: counts, and what was written last.
func TestComesTogether(t *testing.T) {
	d := die(152)
	for range 500 {
		counts, lasts := make([]merge.Count, 4), make([]merge.Last, 4)
		for n := range counts {
			for range d.n(10) {
				var err error
				if counts[n], err = counts[n].Add(d.n(api.MaxNodes), d.n(9)-4); err != nil {
					t.Fatal(err)
				}
			}
			lasts[n] = merge.Last{Time: d.n(3) - 1, Place: d.n(3) - 1, Value: d.n(3) - 1}
		}
		checkLaws(t, &d, counts)
		checkLaws(t, &d, lasts)
	}
}

// houses are places, each of which puts in under its own name, and hears now and then what another one knows; also how it was there at times.
func houses(t *testing.T, d *die) (now, past []merge.Things) {
	t.Helper()
	now = make([]merge.Things, api.MaxNodes)
	for range d.n(60) {
		place, thing := d.n(api.MaxNodes), d.n(5)
		switch d.n(4) {
		case 0, 1:
			var err error
			if now[place], err = now[place].Put(place, thing); err != nil || !now[place].Has(thing) {
				t.Fatalf("%d at %d: %v, %v", thing, place, now[place], err)
			}
		case 2:
			if now[place] = now[place].Drop(thing); now[place].Has(thing) {
				t.Fatalf("%d is dropped: %v", thing, now[place])
			}
		default:
			now[place] = now[place].Join(now[d.n(api.MaxNodes)])
		}
		if d.n(8) == 0 {
			past = append(past, now[place])
		}
	}
	return now, past
}

// What is known comes together to the same: things, where each puts in at a place of its own; what is older adds nothing.
func TestThingsComeTogether(t *testing.T) {
	d := die(153)
	for range 1000 {
		now, past := houses(t, &d)
		checkLaws(t, &d, now)
		all := merge.All(now[0], now[1:]...)
		if got := merge.All(all, past...); !got.Same(all) {
			t.Fatalf("%v, not %v", got, all)
		}
		for n := range now {
			now[n] = merge.All(now[n], now...)
		}
		for _, house := range now {
			if !house.Same(all) || !slices.Equal(house.List(), all.List()) {
				t.Fatalf("%v, not %v", house, all)
			}
		}
	}
}

// If each place counts by itself, all of it is there when they have come together, each once.
func TestNothingIsLost(t *testing.T) {
	d := die(154)
	for range 1000 {
		var places [api.MaxNodes]merge.Count
		sum := 0
		for range d.n(60) {
			place := d.n(api.MaxNodes)
			if d.n(3) == 0 {
				places[place] = places[place].Join(places[d.n(api.MaxNodes)])
				continue
			}
			n := d.n(2*api.MaxNumber+1) - api.MaxNumber
			places[place], _ = places[place].Add(place, n)
			sum += n
		}
		if got := merge.All(places[0], places[1:]...).Value(); got != sum {
			t.Fatalf("%v: %d, not %d", places, got, sum)
		}
	}
}
