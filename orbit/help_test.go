package orbit_test

import (
	"math/bits"
	"math/rand/v2"
	"testing"

	"zoneworks/api"
	"zoneworks/orbit"
)

func span(lo, hi int) api.Span { return api.Span{Lo: lo, Hi: hi} }

// only is the span of one number.
func only(n int) api.Span { return span(n, n) }

func spot(east, north api.Span) api.OrbitSpot { return api.OrbitSpot{East: east, North: north} }

func night(day int, spots ...api.OrbitSpot) api.OrbitNight {
	return api.OrbitNight{Day: day, Spots: spots}
}

func search(speed api.Span, strays int, nights ...api.OrbitNight) api.Search {
	return api.Search{Speed: speed, Nights: nights, Strays: strays}
}

// at is images that are known exactly, each at an East, and all at the North 0.
func at(easts ...int) []api.OrbitSpot {
	var list []api.OrbitSpot
	for _, east := range easts {
		list = append(list, spot(only(east), only(0)))
	}
	return list
}

// rows is a search of nights that come day by day, of images that are known exactly, each at an East.
func rows(speed, strays int, easts ...[]int) api.Search {
	s := search(span(-speed, speed), strays)
	for n, row := range easts {
		s.Nights = append(s.Nights, night(n, at(row...)...))
	}
	return s
}

// example is the search S of the chapter, with changes.
func example(changes ...func(s *api.Search)) api.Search {
	s := search(span(-20, 20), 1,
		night(10, spot(span(100, 102), only(50)), spot(span(200, 201), span(80, 82))),
		night(13, spot(span(130, 131), span(53, 54)), spot(span(200, 203), span(80, 81))),
		night(20, spot(span(198, 202), span(60, 62))),
	)
	for _, change := range changes {
		change(&s)
	}
	return s
}

func withStrays(n int) func(s *api.Search) { return func(s *api.Search) { s.Strays = n } }

// wide is a search of nights with so many images, all of which can be one body if they are not of the same night.
func wide(strays int, images ...int) api.Search {
	s := search(span(-api.OrbitSpeed, api.OrbitSpeed), strays)
	for day, n := range images {
		s.Nights = append(s.Nights, night(day))
		for range n {
			everywhere := span(-api.OrbitSky, api.OrbitSky)
			s.Nights[day].Spots = append(s.Nights[day].Spots, spot(everywhere, everywhere))
		}
	}
	return s
}

// set returns images as a set.
func set(images ...int) int {
	all := 0
	for _, image := range images {
		all |= 1 << image
	}
	return all
}

// across is a search whose East and North have changed places.
func across(s api.Search) api.Search {
	s = copyOf(s)
	for _, night := range s.Nights {
		for n, x := range night.Spots {
			night.Spots[n] = spot(x.North, x.East)
		}
	}
	return s
}

// copyOf returns a search that shares no memory with another one.
func copyOf(s api.Search) api.Search {
	s.Nights = append([]api.OrbitNight{}, s.Nights...)
	for n, night := range s.Nights {
		s.Nights[n].Spots = append([]api.OrbitSpot{}, night.Spots...)
	}
	return s
}

// sizeOf returns how many images a search has.
func sizeOf(s api.Search) int {
	images := 0
	for _, night := range s.Nights {
		images += len(night.Spots)
	}
	return images
}

// two are two spans, or two sets, that are told together.
type two[T any] struct{ a, b T }

// told is all that the package tells of a search: motion and where are by the sets of images, and where by days, too.
type told struct {
	fits         []bool
	motion       []two[api.Span]
	where        [][]two[api.Span]
	count        int
	together     [api.OrbitImages][api.OrbitImages]int
	lost         two[int]
	simple, sure []int
	// e is the error of Count, and that of all functions that need a joining.
	e two[api.Errno]
}

// tellAll calls all functions; it makes no difference between nil and empty lists.
func tellAll(t *testing.T, s api.Search, days ...int) told {
	t.Helper()
	var x told
	for images := range 1 << sizeOf(s) {
		is, e := orbit.Fits(s, images)
		if images == 0 {
			same(t, "Fits of no image", e, api.ErrRange)
		} else {
			same(t, "the error of Fits", e, api.OK)
		}
		want := api.ErrNone
		if is {
			want = api.OK
		} else if images == 0 {
			want = api.ErrRange
		}
		east, north, e := orbit.Motion(s, images)
		same(t, "the error of Motion", e, want)
		var where []two[api.Span]
		for _, day := range days {
			east, north, e := orbit.Where(s, images, day)
			same(t, "the error of Where", e, want)
			where = append(where, two[api.Span]{east, north})
		}
		x.fits, x.motion, x.where = append(x.fits, is), append(x.motion, two[api.Span]{east, north}), append(x.where, where)
	}
	x.count, x.e.a = orbit.Count(s)
	x.lost.a, x.lost.b, x.e.b = orbit.Lost(s)
	for a := range sizeOf(s) {
		for b := range sizeOf(s) {
			if a == b {
				continue
			}
			var e api.Errno
			x.together[a][b], e = orbit.Together(s, a, b)
			same(t, "the error of Together", e, x.e.b)
		}
	}
	var e, f api.Errno
	x.simple, e = orbit.Simple(s)
	x.sure, f = orbit.Sure(s)
	same(t, "the errors of Simple and Sure", two[api.Errno]{e, f}, two[api.Errno]{x.e.b, x.e.b})
	x.simple, x.sure = append([]int{}, x.simple...), append([]int{}, x.sure...)
	return x
}

// isJoined returns whether there is a joining.
func (x told) isJoined() bool { return x.e == two[api.Errno]{} && x.count > 0 }

// isClash returns whether there is none.
func (x told) isClash() bool { return x.e == two[api.Errno]{api.OK, api.ErrClash} && x.count == 0 }

func has(set, n int) bool { return set&(1<<n) != 0 }

func size(set int) int { return bits.OnesCount(uint(set)) }

func least(set int) int { return bits.TrailingZeros(uint(set)) }

// holds returns whether a span contains all of another one.
func holds(all, some api.Span) bool { return all.Lo <= some.Lo && some.Hi <= all.Hi }

// holdsBoth returns whether two spans contain all of two others.
func holdsBoth(all, some two[api.Span]) bool { return holds(all.a, some.a) && holds(all.b, some.b) }

// pick returns a number from lo to hi.
func pick(r *rand.Rand, lo, hi int) int { return lo + r.IntN(hi-lo+1) }

// around returns a span with a number in it.
func around(r *rand.Rand, n, width int) api.Span {
	return span(n-pick(r, 0, width), n+pick(r, 0, width))
}

// random returns generators whose numbers are always the same.
func random() *rand.Rand { return rand.New(rand.NewPCG(8, 8)) }

// anyDays returns so many days at most, in order, the last of which is 7 or less.
func anyDays(r *rand.Rand, most int) []int {
	var days []int
	for day := range 8 {
		if len(days) < most && r.IntN(2) == 0 {
			days = append(days, day)
		}
	}
	return days
}

// anySearch returns a search of so many images at most, which are so near to one another that several of them can be one
// body.
func anySearch(r *rand.Rand, most int) api.Search {
	lo := pick(r, -4, 3)
	s := search(span(lo, pick(r, lo, 4)), pick(r, 0, 3))
	if r.IntN(4) == 0 {
		s.Strays = pick(r, 3, most)
	}
	reach, width := []int{2, 5, 9, 14}[r.IntN(4)], pick(r, 0, 2)
	// None, some or all of the images are on their way with one body.
	motion, onWay := pick(r, -1, 1), pick(r, 0, 2)
	for _, day := range anyDays(r, 4) {
		n := night(day)
		for range min(pick(r, 0, 3), most-sizeOf(s)) {
			east, north := pick(r, -reach, reach), pick(r, -reach, reach)/2
			if r.IntN(2) < onWay {
				east, north = motion*day, pick(r, -1, 1)
			}
			n.Spots = append(n.Spots, spot(around(r, east, width), around(r, north, width)))
		}
		s.Nights = append(s.Nights, n)
	}
	return s
}

// same fails unless both are the same.
func same[T comparable](t *testing.T, what string, got, want T) {
	t.Helper()
	if got != want {
		t.Errorf("%s: %v, not %v", what, got, want)
	}
}
