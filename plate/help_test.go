package plate_test

import (
	"math/bits"
	"math/rand/v2"
	"testing"

	"zoneworks/api"
	"zoneworks/plate"
)

func span(lo, hi int) api.Span { return api.Span{Lo: lo, Hi: hi} }

// only is the span of one number.
func only(n int) api.Span { return span(n, n) }

// star is a star that is not known, by both ends of its X and Y.
func star(a, b, c, d int) api.Star { return api.Star{X: span(a, b), Y: span(c, d)} }

// known is a star that is known, by both ends of its East and North.
func known(s api.Star, a, b, c, d int) api.Star {
	s.Known, s.East, s.North = true, span(a, b), span(c, d)
	return s
}

// at is a star that stands at one place, and is not known.
func at(x, y int) api.Star { return star(x, x, y, y) }

// fixed is a star that stands at one place, and is known to be at one.
func fixed(x, y, east, north int) api.Star { return known(at(x, y), east, east, north, north) }

// plateP is the plate P of the chapter.
func plateP() api.Plate {
	return scaled(590, 610, known(star(1000, 1002, 2000, 2001), 5600, 5602, 7200, 7203), known(star(3000, 3001, 500, 502), 6800, 6801, 6300, 6302), star(2000, 2001, 1500, 1500))
}

// plateQ is the plate Q of the chapter.
func plateQ() api.Plate {
	p := plateP()
	p.Stars[2] = known(p.Stars[2], 6210, 6211, 6880, 6910)
	return p
}

// scaled is a plate with a scale from one bound to another one.
func scaled(lo, hi int, stars ...api.Star) api.Plate {
	return api.Plate{Scale: span(lo, hi), Stars: stars}
}

// plain is a plate on which a step is as large as in the sky.
func plain(stars ...api.Star) api.Plate { return scaled(1000, 1000, stars...) }

// both is a span along each direction.
type both [2]api.Span

// told is all that the package tells of a plate, but for Find.
type told struct {
	scale                   api.Span
	zero                    both
	star                    []both
	apart                   [][]both
	clash, drop, poor, wide int
	errors                  []api.Errno
}

// tellAll calls all functions of the package, but for Find.
func tellAll(p api.Plate) told {
	var t told
	var e api.Errno
	note := func() { t.errors = append(t.errors, e) }
	t.scale, e = plate.Scale(p)
	note()
	t.zero[0], t.zero[1], e = plate.Zero(p)
	note()
	for a := range p.Stars {
		var x both
		x[0], x[1], e = plate.Star(p, a)
		note()
		t.star = append(t.star, x)
		row := []both{}
		for b := range p.Stars {
			x[0], x[1], e = plate.Apart(p, a, b)
			note()
			row = append(row, x)
		}
		t.apart = append(t.apart, row)
	}
	t.clash, e = plate.Clash(p)
	note()
	t.drop, e = plate.Drop(p)
	note()
	t.poor, t.wide, e = plate.Poor(p)
	note()
	return t
}

// can returns whether there is a truth.
func can(p api.Plate) bool {
	_, e := plate.Scale(p)
	return e == api.OK
}

// anyKnown returns whether a star is known.
func anyKnown(p api.Plate) bool {
	for _, s := range p.Stars {
		if s.Known {
			return true
		}
	}
	return false
}

// copyOf returns a plate that shares no memory with another one.
func copyOf(p api.Plate) api.Plate {
	p.Stars = append([]api.Star{}, p.Stars...)
	return p
}

// without returns a plate of which the stars of a set are not known.
func without(p api.Plate, set int) api.Plate {
	p = copyOf(p)
	for i := range p.Stars {
		if set&(1<<i) != 0 {
			p.Stars[i].Known = false
		}
	}
	return p
}

// within returns whether a span is no wider than another one.
func within(narrow, wide api.Span) bool {
	return wide.Lo <= narrow.Lo && narrow.Lo <= narrow.Hi && narrow.Hi <= wide.Hi
}

// bothWithin returns whether spans of both directions are no wider than others.
func bothWithin(narrow, wide both) bool {
	return within(narrow[0], wide[0]) && within(narrow[1], wide[1])
}

func size(set int) int { return bits.OnesCount(uint(set)) }

// pick returns a number from lo to hi.
func pick(r *rand.Rand, lo, hi int) int { return lo + r.IntN(hi-lo+1) }

// part returns a span within another one.
func part(r *rand.Rand, s api.Span) api.Span {
	a, b := pick(r, s.Lo, s.Hi), pick(r, s.Lo, s.Hi)
	return span(min(a, b), max(a, b))
}

// around returns a span that contains a number, whose ends are at most so far from it, and within bounds.
func around(r *rand.Rand, n, by int, bounds api.Span) api.Span {
	return span(max(bounds.Lo, n-pick(r, 0, by)), min(bounds.Hi, n+pick(r, 0, by)))
}

// random returns generators whose numbers are always the same.
func random() *rand.Rand { return rand.New(rand.NewPCG(4, 4)) }

// same fails unless both are the same.
func same[T comparable](t *testing.T, what string, got, want T) {
	t.Helper()
	if got != want {
		t.Errorf("%s: %v, not %v", what, got, want)
	}
}
