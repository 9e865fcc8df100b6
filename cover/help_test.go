package cover_test

import (
	"math/bits"
	"math/rand/v2"
	"slices"
	"testing"

	"zoneworks/api"
	"zoneworks/cover"
)

func span(lo, hi int) api.Span { return api.Span{Lo: lo, Hi: hi} }

// only is the span of one number.
func only(n int) api.Span { return span(n, n) }

func plate(east, north api.Span, day, depth int) api.Sky {
	return api.Sky{East: east, North: north, Day: day, Depth: depth}
}

// example is the field of the chapter, with changes.
func example(changes ...func(f *api.Field)) api.Field {
	f := api.Field{
		Plates: []api.Sky{
			plate(span(0, 1), span(0, 2), 120, 12),
			plate(span(1, 2), span(0, 0), 150, 15),
			plate(span(2, 3), span(0, 0), 250, 10),
			plate(span(0, 3), span(0, 0), 99, 20),
			plate(span(3, 5), span(0, 1), 300, 11),
		},
		East: span(0, 3), Days: span(100, 300), Depth: 10, Times: 1,
	}
	for _, change := range changes {
		change(&f)
	}
	return f
}

// wanting returns a change of how many times each place is wanted, and how far apart.
func wanting(times, gap int) func(f *api.Field) {
	return func(f *api.Field) { f.Times, f.Gap = times, gap }
}

// square is a field of so many places in both directions, with plates; all days and depths will do.
func square(east, north int, plates ...api.Sky) api.Field {
	return api.Field{Plates: plates, East: span(0, east-1), North: span(0, north-1), Days: span(0, api.MaxDay), Times: 1}
}

// row is a field of so many places from west to east, with plates that have the spans of them.
func row(places int, spans ...api.Span) api.Field {
	var plates []api.Sky
	for _, s := range spans {
		plates = append(plates, plate(s, only(0), 7, 7))
	}
	return square(places, 1, plates...)
}

// dated is a field of one place that is wanted some times, with plates of some days.
func dated(times, gap int, days ...int) api.Field {
	f := square(1, 1)
	f.Times, f.Gap = times, gap
	for _, day := range days {
		f.Plates = append(f.Plates, plate(only(0), only(0), day, 7))
	}
	return f
}

// set returns plates as a set.
func set(plates ...int) int {
	all := 0
	for _, n := range plates {
		all |= 1 << n
	}
	return all
}

func has(set, n int) bool { return set&(1<<n) != 0 }

func size(set int) int { return bits.OnesCount(uint(set)) }

// isIn returns whether all of a set is in another one.
func isIn(some, all int) bool { return some&^all == 0 }

// holds returns whether a number is in a span.
func holds(s api.Span, n int) bool { return s.Lo <= n && n <= s.Hi }

// placesOf returns all places of a field in their order.
func placesOf(f api.Field) [][2]int {
	var all [][2]int
	for east := f.East.Lo; east <= f.East.Hi; east++ {
		for north := f.North.Lo; north <= f.North.Hi; north++ {
			all = append(all, [2]int{east, north})
		}
	}
	return all
}

// copyOf returns a field that shares no memory with another one.
func copyOf(f api.Field) api.Field {
	f.Plates = slices.Clone(f.Plates)
	return f
}

// lack is what Missing tells: a place, and how many; none of a list.
type lack struct{ east, north, places int }

// told is all that the package tells of a field: of sets, by their numbers, which of its places are served, and what is
// missing.
type told struct {
	useful                  int
	served                  [][]bool
	missing                 []lack
	shortest, lists, needed int
	apart                   [][2]int
	// e is the error of all functions that need a list.
	e api.Errno
}

// tellAll calls all functions, those that are told of a set with all of them.
func tellAll(t *testing.T, f api.Field) told {
	t.Helper()
	x := tell(t, f)
	for plates := range 1 << len(f.Plates) {
		var served []bool
		for _, p := range placesOf(f) {
			is, e := cover.Served(f, plates, p[0], p[1])
			same(t, "the error of Served", e, api.OK)
			served = append(served, is)
		}
		east, north, places, e := cover.Missing(f, plates)
		same(t, "the error of Missing", e == api.ErrNone, places == 0)
		same(t, "the error of Missing", e == api.OK, places != 0)
		x.served, x.missing = append(x.served, served), append(x.missing, lack{east, north, places})
	}
	return x
}

// tell calls all functions that are told of the field alone.
func tell(t *testing.T, f api.Field) told {
	t.Helper()
	var x told
	var e api.Errno
	x.useful, e = cover.Useful(f)
	same(t, "the error of Useful", e, api.OK)
	x.shortest, x.e = cover.Shortest(f)
	x.lists, e = cover.Lists(f)
	same(t, "the error of Lists", e, x.e)
	x.needed, e = cover.Needed(f)
	same(t, "the error of Needed", e, x.e)
	x.apart, e = cover.Apart(f)
	same(t, "the error of Apart", e, x.e)
	if x.e != api.OK {
		same(t, "an error", x.e, api.ErrNone)
		same(t, "with an error", [4]int{x.shortest, x.lists, x.needed, len(x.apart)}, [4]int{})
	}
	return x
}

// pick returns a number from lo to hi.
func pick(r *rand.Rand, lo, hi int) int { return lo + r.IntN(hi-lo+1) }

// random returns generators whose numbers are always the same.
func random() *rand.Rand { return rand.New(rand.NewPCG(10, 10)) }

// within returns a span of numbers from lo to hi.
func within(r *rand.Rand, lo, hi int) api.Span {
	a, b := pick(r, lo, hi), pick(r, lo, hi)
	return span(min(a, b), max(a, b))
}

// near returns a span of the sky around some numbers of a field, that has all of them, or some, or none.
func near(r *rand.Rand, s api.Span) api.Span {
	lo, hi := max(0, s.Lo-2), min(api.CoverSide, s.Hi+2)
	if r.IntN(3) == 0 {
		return span(pick(r, lo, s.Lo), pick(r, s.Hi, hi))
	}
	return within(r, lo, hi)
}

// part is a part of a field, in two directions.
type part struct{ east, north api.Span }

// tiles returns parts of a field, at most so many, that together are a part of it.
func tiles(r *rand.Rand, all part, most int) []part {
	east := r.IntN(2) == 0
	s := all.north
	if east {
		s = all.east
	}
	if most < 2 || s.Lo == s.Hi {
		return []part{all}
	}
	at := pick(r, s.Lo, s.Hi-1)
	a, b := all, all
	if east {
		a.east.Hi, b.east.Lo = at, at+1
	} else {
		a.north.Hi, b.north.Lo = at, at+1
	}
	first := tiles(r, a, pick(r, 1, most-1))
	return append(first, tiles(r, b, most-len(first))...)
}

// grown returns a span to which sometimes a number on either side was added.
func grown(r *rand.Rand, s api.Span) api.Span {
	if r.IntN(4) == 0 {
		s.Lo = max(0, s.Lo-1)
	}
	if r.IntN(4) == 0 {
		s.Hi = min(api.CoverSide, s.Hi+1)
	}
	return s
}

// anyField returns a field with so many plates, of at most so many places in each direction; there can be lists, or none.
func anyField(r *rand.Rand, plates, side int) api.Field {
	corner := []int{0, 5, api.CoverSide - side + 1}[r.IntN(3)]
	first := []int{0, 700, api.MaxDay - 30}[r.IntN(3)]
	end := corner + side - 1
	f := api.Field{
		East: span(corner, pick(r, (corner+end)/2, end)), North: span(pick(r, corner, (corner+end)/2), end),
		Days: span(pick(r, first, first+2), pick(r, first+28, first+30)), Depth: pick(r, 0, 9), Times: 1, Gap: pick(r, 0, 8),
	}
	if r.IntN(3) == 0 {
		f.Times = pick(r, 2, api.CoverTimes)
	}
	var parts []part
	for range f.Times * r.IntN(3) {
		parts = append(parts, tiles(r, part{f.East, f.North}, max(1, plates/f.Times))...)
	}
	r.Shuffle(len(parts), func(i, j int) { parts[i], parts[j] = parts[j], parts[i] })
	for n := range plates {
		day, depth := pick(r, first, first+30), pick(r, max(0, f.Depth-1), f.Depth+19)
		if n < len(parts) {
			f.Plates = append(f.Plates, plate(grown(r, parts[n].east), grown(r, parts[n].north), day, depth))
		} else {
			f.Plates = append(f.Plates, plate(near(r, f.East), near(r, f.North), day, depth))
		}
	}
	return f
}

// isMany returns whether all numbers are at least so great.
func isMany(least int, numbers ...int) bool { return slices.Min(numbers) >= least }

// same fails unless both are the same.
func same[T comparable](t *testing.T, what string, got, want T) {
	t.Helper()
	if got != want {
		t.Errorf("%s: %v, not %v", what, got, want)
	}
}
