package plate_test

import (
	"math/rand/v2"
	"reflect"
	"testing"

	"zoneworks/api"
	"zoneworks/plate"
)

// A slow way, which goes through all scales, all corners, and all places on the plate: every small plate is told by it,
// too. The corner of a small plate is at most nearCorner from 0, if a star is known.
const nearCorner = 80

// small returns a plate that is small enough for that. Its stars are where they are by one scale and one corner, or not
// far from there.
func small(r *rand.Rand) api.Plate {
	scale := pick(r, 1, 1000)
	corner := [2]int{pick(r, -9, 9), pick(r, -9, 9)}
	p := api.Plate{Scale: around(r, scale, 8, span(1, 1000))}
	off := pick(r, 0, 4)
	for range pick(r, 0, 5) {
		var s api.Star
		for i, x := range []*api.Span{&s.X, &s.Y} {
			n := pick(r, 0, 3000)
			*x = around(r, n, pick(r, 0, 2), span(0, 1<<15))
			place := corner[i] + scale*n/1000 + pick(r, -off, off)
			*[]*api.Span{&s.East, &s.North}[i] = around(r, place, pick(r, 0, 2), span(-1<<20, 1<<20))
		}
		s.Known = r.IntN(4) != 0
		p.Stars = append(p.Stars, s)
	}
	return p
}

// along returns the spans of a star that are along a direction.
func along(s api.Star, direction int) (on, sky api.Span) {
	if direction == 0 {
		return s.X, s.East
	}
	return s.Y, s.North
}

// placesOf returns all places of a star along a direction, with a scale and a corner; right: if it is where it is said.
func placesOf(s api.Star, direction, scale, corner int, right bool) []int {
	var all []int
	on, sky := along(s, direction)
	for x := on.Lo; x <= on.Hi; x++ {
		place := corner + floor(scale*x, 1000)
		if !right || sky.Lo <= place && place <= sky.Hi {
			all = append(all, place)
		}
	}
	return all
}

// floor divides, and rounds down, step by step from a greater number.
func floor(a, b int) int {
	n := a/b + 1
	for n*b > a {
		n--
	}
	return n
}

// cornersOf returns all corners that there can be along a direction if the stars of a set are right.
func cornersOf(p api.Plate, direction, scale, right int) []int {
	var all []int
next:
	for corner := -nearCorner; corner <= nearCorner; corner++ {
		for i, s := range p.Stars {
			if right&(1<<i) != 0 && len(placesOf(s, direction, scale, corner, true)) == 0 {
				continue next
			}
		}
		all = append(all, corner)
	}
	return all
}

// truth is a scale, and all corners along each direction that there can be with it.
type truth struct {
	scale   int
	corners [2][]int
}

// truthsOf returns all truths if the stars of a set are right.
func truthsOf(p api.Plate, right int) []truth {
	var all []truth
	for scale := p.Scale.Lo; scale <= p.Scale.Hi; scale++ {
		x := truth{scale: scale}
		for i := range x.corners {
			x.corners[i] = cornersOf(p, i, scale, right)
		}
		if len(x.corners[0]) > 0 && len(x.corners[1]) > 0 {
			all = append(all, x)
		}
	}
	return all
}

// knownOf returns the set of the known stars.
func knownOf(p api.Plate) int {
	set := 0
	for i, s := range p.Stars {
		if s.Known {
			set |= 1 << i
		}
	}
	return set
}

// ends keeps the least and the greatest of numbers.
type ends struct {
	span api.Span
	any  bool
}

func (e *ends) add(n int) {
	if !e.any {
		e.span, e.any = only(n), true
	}
	e.span = span(min(e.span.Lo, n), max(e.span.Hi, n))
}

// slowSpans tells the spans of a plate of which these are all truths.
func slowSpans(p api.Plate, truths []truth, t *told) {
	var scale ends
	var zero [2]ends
	stars, apart := make([][2]ends, len(p.Stars)), make([][][2]ends, len(p.Stars))
	for a := range p.Stars {
		apart[a] = make([][2]ends, len(p.Stars))
	}
	for _, x := range truths {
		scale.add(x.scale)
		for i, corners := range x.corners {
			for _, corner := range corners {
				zero[i].add(corner)
				for a, s := range p.Stars {
					for _, m := range placesOf(s, i, x.scale, corner, s.Known) {
						stars[a][i].add(m)
						apart[a][a][i].add(0)
						for b, other := range p.Stars {
							if a == b {
								continue
							}
							for _, n := range placesOf(other, i, x.scale, corner, other.Known) {
								apart[a][b][i].add(n - m)
							}
						}
					}
				}
			}
		}
	}
	t.scale = scale.span
	for i := range zero {
		t.zero[i] = zero[i].span
	}
	for a := range p.Stars {
		t.star = append(t.star, both{stars[a][0].span, stars[a][1].span})
		row := []both{}
		for b := range p.Stars {
			row = append(row, both{apart[a][b][0].span, apart[a][b][1].span})
		}
		t.apart = append(t.apart, row)
	}
}

// slowSet returns the smallest set of known stars that is as asked, with the least number.
func slowSet(p api.Plate, asked func(set int) bool) int {
	best := -1
	for set := range 1 << len(p.Stars) {
		if set&^knownOf(p) == 0 && asked(set) && (best < 0 || size(set) < size(best)) {
			best = set
		}
	}
	return max(best, 0)
}

// slowErrors tells which errors there are, and blanks what is not told with them.
func slowErrors(p api.Plate, truths []truth, t *told) {
	clash, doubt := api.OK, api.OK
	if knownOf(p) == 0 {
		doubt = api.ErrDoubt
		t.zero, t.poor, t.wide = both{}, 0, 0
	}
	if len(truths) == 0 {
		clash, doubt = api.ErrClash, api.ErrClash
	}
	t.errors = append(t.errors, clash, doubt)
	for a := range p.Stars {
		if doubt != api.OK {
			t.star[a] = both{}
		}
		t.errors = append(t.errors, doubt)
		for range p.Stars {
			t.errors = append(t.errors, clash)
		}
	}
	t.errors = append(t.errors, api.OK, api.OK, doubt)
}

// slowly returns what tellAll has to, found by going through all truths.
func slowly(p api.Plate, truths []truth) told {
	var t told
	slowSpans(p, truths, &t)
	t.clash = slowSet(p, func(set int) bool { return len(truthsOf(p, set)) == 0 })
	t.drop = slowSet(p, func(set int) bool { return len(truthsOf(p, knownOf(p)&^set)) > 0 })
	for a, s := range t.star {
		wide := s[0].Hi - s[0].Lo + s[1].Hi - s[1].Lo
		if a == 0 || wide > t.wide {
			t.poor, t.wide = a, wide
		}
	}
	slowErrors(p, truths, &t)
	return t
}

// P4.1 to P4.4, P4.6 to P4.8: all that is told is what all truths have, and both ends of each span are reached; sets are
// the smallest ones, with the least numbers.
func TestAgainstAllTruths(t *testing.T) {
	r := random()
	var clashes, drops [6]int
	gaps, linked := 0, 0
	for i := range 2500 {
		p := small(r)
		truths := truthsOf(p, knownOf(p))
		got, want := tellAll(p), slowly(p, truths)
		if !reflect.DeepEqual(got, want) {
			t.Fatalf("%d: %+v\n%+v, not\n%+v", i, p, got, want)
		}
		clashes[size(want.clash)]++
		drops[size(want.drop)]++
		if n := len(truths); n > 0 && n <= want.scale.Hi-want.scale.Lo {
			gaps++
		}
		if want.apart != nil && len(truths) > 0 && apartFromPlaces(want) {
			linked++
		}
	}
	if clashes[0] < 500 || clashes[2] < 300 || clashes[3] < 20 || clashes[4] < 1 || drops[1] < 200 || drops[2] < 100 || drops[3] < 10 || gaps < 3 || linked < 200 {
		t.Error("too few plates of a kind:", clashes, drops, gaps, linked)
	}
}

// apartFromPlaces returns whether some stars are apart more exactly than by their places alone.
func apartFromPlaces(t told) bool {
	for a, row := range t.apart {
		for b, s := range row {
			for i := range s {
				if a != b && s[i] != span(t.star[b][i].Lo-t.star[a][i].Hi, t.star[b][i].Hi-t.star[a][i].Lo) {
					return true
				}
			}
		}
	}
	return false
}

// slowFind returns where on the plate a place along a direction is, by going through all places on it.
func slowFind(truths []truth, direction, place int) ends {
	var found ends
	for _, x := range truths {
		var can [2*nearCorner + 1]bool
		for _, corner := range x.corners[direction] {
			can[corner+nearCorner] = true
		}
		for at := range 1<<15 + 1 {
			corner := place - x.scale*at/1000 + nearCorner
			if corner >= 0 && corner < len(can) && can[corner] {
				found.add(at)
			}
		}
	}
	return found
}

// P4.5: a place of the sky is found where some truth has it, and both ends of each span are reached.
func TestFindAgainstAllTruths(t *testing.T) {
	r := random()
	found, one, none := 0, 0, 0
	for i := range 900 {
		p := small(r)
		truths := truthsOf(p, knownOf(p))
		if len(truths) == 0 || knownOf(p) == 0 {
			continue
		}
		far := p.Scale.Lo*(1<<15)/1000 + pick(r, -99, 99)
		places := [2]int{pick(r, -30, 300), pick(r, -30, 300)}
		places[r.IntN(3)%2] = []int{far, pick(r, -30, 5), pick(r, 0, far)}[r.IntN(3)]
		x, y, e := plate.Find(p, places[0], places[1])
		east, north := slowFind(truths, 0, places[0]), slowFind(truths, 1, places[1])
		want, error := both{east.span, north.span}, api.OK
		if !east.any || !north.any {
			want, error = both{}, api.ErrNone
		}
		if (both{x, y}) != want || e != error {
			t.Fatal(i, p, places, x, y, e, want, error)
		}
		if e == api.OK {
			found++
		} else if east.any != north.any {
			one++
		} else {
			none++
		}
	}
	if found < 50 || one < 20 || none < 5 {
		t.Error("too few places of a kind:", found, one, none)
	}
}
