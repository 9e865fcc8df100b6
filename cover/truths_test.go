package cover_test

import (
	"reflect"
	"testing"

	"zoneworks/api"
)

// Slow ways, by which every field is told, too.

// slowlyOf returns whether a plate is of use: it goes through all of its places.
func slowlyOf(f api.Field, p api.Sky) bool {
	for east := p.East.Lo; east <= p.East.Hi; east++ {
		for north := p.North.Lo; north <= p.North.Hi; north++ {
			if holds(f.East, east) && holds(f.North, north) {
				return holds(f.Days, p.Day) && p.Depth >= f.Depth
			}
		}
	}
	return false
}

// choices returns all sets of as many plates as are wanted, of which each is of use and has a place, and the days of each
// two are far enough apart.
func choices(f api.Field, place [2]int) []int {
	var all []int
sets:
	for plates := range 1 << len(f.Plates) {
		if size(plates) != f.Times {
			continue
		}
		for a, p := range f.Plates {
			if !has(plates, a) {
				continue
			}
			if !slowlyOf(f, p) || !holds(p.East, place[0]) || !holds(p.North, place[1]) {
				continue sets
			}
			for b, q := range f.Plates {
				if b != a && has(plates, b) && max(p.Day-q.Day, q.Day-p.Day) < f.Gap {
					continue sets
				}
			}
		}
		all = append(all, plates)
	}
	return all
}

// tellSlowly returns what tellAll has to.
func tellSlowly(f api.Field) told {
	var x told
	for n, p := range f.Plates {
		if slowlyOf(f, p) {
			x.useful |= 1 << n
		}
	}
	var all [][]int
	for _, p := range placesOf(f) {
		all = append(all, choices(f, p))
	}
	for plates := range 1 << len(f.Plates) {
		var served []bool
		var missing lack
		for n, p := range placesOf(f) {
			is := false
			for _, choice := range all[n] {
				is = is || isIn(choice, plates)
			}
			if served = append(served, is); is {
				continue
			}
			if missing.places == 0 {
				missing.east, missing.north = p[0], p[1]
			}
			missing.places++
		}
		x.served, x.missing = append(x.served, served), append(x.missing, missing)
	}
	x.gatherSlowly(f)
	return x
}

// gatherSlowly tells what follows of which places are served.
func (x *told) gatherSlowly(f api.Field) {
	everything := len(x.missing) - 1
	if x.missing[everything].places > 0 {
		x.e = api.ErrNone
		return
	}
	fewest := len(f.Plates) + 1
	for plates, missing := range x.missing {
		if missing.places > 0 || size(plates) > fewest {
			continue
		}
		if size(plates) < fewest {
			fewest, x.shortest, x.lists = size(plates), plates, 0
		}
		x.lists++
	}
	for n := range f.Plates {
		if x.missing[everything&^(1<<n)].places > 0 {
			x.needed |= 1 << n
		}
	}
	x.apart = slowlyApart(f, nil, placesOf(f))
}

// areApart returns whether no plate that is of use has two places.
func areApart(f api.Field, a, b [2]int) bool {
	for _, p := range f.Plates {
		if slowlyOf(f, p) && holds(p.East, a[0]) && holds(p.North, a[1]) && holds(p.East, b[0]) && holds(p.North, b[1]) {
			return false
		}
	}
	return true
}

// slowlyApart goes through all lists of places that are apart, those that begin with the least place first: those that
// begin with some places, and go on with others that are apart from them.
func slowlyApart(f api.Field, begin, others [][2]int) [][2]int {
	best := append([][2]int{}, begin...)
	for n, p := range others {
		if len(begin)+len(others)-n <= len(best) {
			break
		}
		var left [][2]int
		for _, other := range others[n+1:] {
			if areApart(f, p, other) {
				left = append(left, other)
			}
		}
		if found := slowlyApart(f, append(append([][2]int{}, begin...), p), left); len(found) > len(best) {
			best = found
		}
	}
	return best
}

// tally is how many fields, and what was told of them, there are of each kind.
type tally struct {
	none, many, needed, farther, skips int
	sizes, aparts                      [13]int
	times                              [api.CoverTimes + 1]int
}

// take adds what is told of a field.
func (n *tally) take(f api.Field, x told) {
	if x.e != api.OK {
		n.none++
		return
	}
	n.sizes[size(x.shortest)]++
	n.aparts[len(x.apart)]++
	n.times[f.Times]++
	if x.lists > 1 {
		n.many++
	}
	if x.needed != 0 && x.needed != x.shortest {
		n.needed++
	}
	// The days, or a place that several plates have, make it longer.
	if size(x.shortest) > f.Times*len(x.apart) {
		n.farther++
	}
	if x.apart[0] != [2]int{f.East.Lo, f.North.Lo} {
		n.skips++
	}
}

// P10.1 to P10.7: all that is told is what goes through all sets of plates and of places.
func TestAgainstAllSets(t *testing.T) {
	r := random()
	var n tally
	for i := range 8000 {
		f := anyField(r, pick(r, 0, 7), pick(r, 1, 5))
		got, want := tellAll(t, f), tellSlowly(f)
		if len(got.apart) == 0 {
			got.apart = nil
		}
		if !reflect.DeepEqual(got, want) {
			t.Fatalf("%d: %+v\n%+v, not\n%+v", i, f, got, want)
		}
		n.take(f, want)
	}
	if !isMany(50, n.none, n.many, n.needed, n.farther) || !isMany(20, n.skips) || !isMany(20, n.sizes[1:5]...) || !isMany(20, n.aparts[1:4]...) || !isMany(20, n.times[1:]...) {
		t.Errorf("too few fields of a kind: %+v", n)
	}
}

// P10.4 to P10.7: fields with as many plates as there can be.
func TestAgainstAllSetsOfMany(t *testing.T) {
	r := random()
	var n tally
	for i := range 500 {
		f := anyField(r, pick(r, 9, 12), pick(r, 2, 5))
		got, want := tell(t, f), tellSlowly(f)
		want.served, want.missing = nil, nil
		if len(got.apart) == 0 {
			got.apart = nil
		}
		if !reflect.DeepEqual(got, want) {
			t.Fatalf("%d: %+v\n%+v, not\n%+v", i, f, got, want)
		}
		n.take(f, want)
	}
	if !isMany(5, n.none, n.many, n.sizes[1], n.sizes[2], n.sizes[3], n.aparts[1], n.aparts[2]) {
		t.Errorf("too few fields of a kind: %+v", n)
	}
}
