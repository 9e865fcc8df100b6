package image_test

import (
	"math/bits"
	"math/rand/v2"
	"slices"
	"testing"

	"zoneworks/api"
	"zoneworks/image"
)

const no = api.NoSpot

func span(lo, hi int) api.Span { return api.Span{Lo: lo, Hi: hi} }

func spot(x, y, size api.Span) api.Spot { return api.Spot{X: x, Y: y, Size: size} }

// at is an image that is known exactly.
func at(x, y, size int) api.Spot { return spot(span(x, x), span(y, y), span(size, size)) }

// example is the sheet of the chapter, with changes.
func example(changes ...func(s *api.Sheet)) api.Sheet {
	s := api.Sheet{
		Steps: [2]api.Step{{X: span(20, 22), Y: span(0, 1)}, {X: span(0, 1), Y: span(30, 33)}},
		Fades: [2]api.Span{span(2, 3), span(5, 6)},
		Limit: 10,
		Flaws: 2,
		Spots: []api.Spot{
			spot(span(100, 102), span(200, 201), span(20, 22)),
			spot(span(121, 123), span(200, 202), span(18, 19)),
			spot(span(101, 102), span(231, 233), span(15, 16)),
			spot(span(300, 301), span(50, 51), span(13, 14)),
			spot(span(320, 322), span(50, 51), span(10, 11)),
			spot(span(500, 500), span(500, 500), span(30, 40)),
		},
	}
	for _, change := range changes {
		change(&s)
	}
	return s
}

func withFlaws(n int) func(s *api.Sheet) { return func(s *api.Sheet) { s.Flaws = n } }

// wide is a sheet on which each trail fits.
func wide(images, flaws int) api.Sheet {
	steps := span(-api.ImagePlace, api.ImagePlace)
	sizes := span(0, api.ImageSize)
	s := api.Sheet{Steps: [2]api.Step{{X: steps, Y: steps}, {X: steps, Y: steps}}, Fades: [2]api.Span{sizes, sizes}, Limit: 500, Flaws: flaws}
	for range images {
		s.Spots = append(s.Spots, spot(span(0, api.ImagePlace), span(0, api.ImagePlace), sizes))
	}
	return s
}

// exact is a sheet that was shifted by 10 in X, and then by 10 in Y, exactly; images are smaller by 3, and by 6, and seen
// from 5 on.
func exact(flaws int, spots ...api.Spot) api.Sheet {
	return api.Sheet{
		Steps: [2]api.Step{{X: span(10, 10)}, {Y: span(10, 10)}},
		Fades: [2]api.Span{span(3, 3), span(6, 6)},
		Limit: 5, Flaws: flaws, Spots: spots,
	}
}

// place is what Where tells.
type place struct {
	x, y, size api.Span
	e          api.Errno
}

// told is all that the package tells of the ways of a sheet.
type told struct {
	count, needs int
	fewest       []api.Trail
	stars, flaws int
	many         api.Span
	where        []place
	errors       [5]api.Errno
}

// tellAll calls all functions that ask something of a sheet; it makes no difference between nil and empty lists.
func tellAll(s api.Sheet) told {
	var t told
	t.count, t.errors[0] = image.Count(s)
	t.needs, t.errors[1] = image.Needs(s)
	t.fewest, t.errors[2] = image.Fewest(s)
	t.fewest = append([]api.Trail{}, t.fewest...)
	t.stars, t.flaws, t.errors[3] = image.Tell(s)
	t.many, t.errors[4] = image.Stars(s)
	for i := range s.Spots {
		var p place
		p.x, p.y, p.size, p.e = image.Where(s, i)
		t.where = append(t.where, p)
	}
	return t
}

// copyOf returns a sheet that shares no memory with another one.
func copyOf(s api.Sheet) api.Sheet {
	s.Spots = slices.Clone(s.Spots)
	return s
}

// within returns whether a span is no wider than another one.
func within(narrow, wide api.Span) bool {
	return wide.Lo <= narrow.Lo && narrow.Lo <= narrow.Hi && narrow.Hi <= wide.Hi
}

// size returns how many images a set has.
func size(set int) int { return bits.OnesCount(uint(set)) }

// pick returns a number from lo to hi.
func pick(r *rand.Rand, lo, hi int) int { return lo + r.IntN(hi-lo+1) }

// part returns a span within lo to hi, at most as wide as that.
func part(r *rand.Rand, lo, hi, width int) api.Span {
	n := pick(r, lo, hi)
	return span(n, min(hi, n+pick(r, 0, width)))
}

// small returns a sheet that is small enough for all its stars and ways to be gone through.
func small(r *rand.Rand) api.Sheet {
	var s api.Sheet
	for k := range s.Steps {
		s.Steps[k] = api.Step{X: part(r, -3, 3, 3), Y: part(r, -3, 3, 3)}
		s.Fades[k] = part(r, 0, 5, 3)
	}
	s.Limit = pick(r, 0, 7)
	s.Flaws = pick(r, 0, 6)
	for range pick(r, 0, 6) {
		s.Spots = append(s.Spots, spot(part(r, 0, 6, 4), part(r, 0, 6, 4), part(r, 0, 12, 5)))
	}
	return s
}

// random returns generators whose numbers are always the same.
func random() *rand.Rand { return rand.New(rand.NewPCG(2, 2)) }

// same fails unless both are the same.
func same[T comparable](t *testing.T, what string, got, want T) {
	t.Helper()
	if got != want {
		t.Errorf("%s: %v, not %v", what, got, want)
	}
}
