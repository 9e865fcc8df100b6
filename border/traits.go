package border

import "zoneworks/api"

// trait is something of a star that is the same in both zones, but for the shift.
type trait struct {
	// of returns what it is of a star.
	of func(star api.Edge) api.Span
	// by returns by how much a shift makes it greater.
	by func(with shift) int
}

// traits returns what stars are asked for.
func traits() []trait {
	return []trait{
		{of: func(star api.Edge) api.Span { return star.East }, by: shift.toEast},
		{of: func(star api.Edge) api.Span { return star.North }, by: shift.toNorth},
		{of: func(star api.Edge) api.Span { return star.Bright }, by: func(shift) int { return 0 }},
	}
}

// agree returns whether a star of First and one of Second can have the same trait, with a shift.
func (t trait) agree(first, second api.Edge, with shift) bool {
	a, b, by := t.of(first), t.of(second), t.by(with)
	return a.Lo <= b.Hi+by && b.Lo+by <= a.Hi
}

// sames is the stars that can be the same: for each star of First, the set of those of Second.
type sames [api.BorderStars]set

// sameWith returns the stars that can be the same with a shift.
func (l look) sameWith(with shift) sames {
	var same sames
	for f, first := range l.First {
	stars:
		for s, second := range l.Second {
			for _, t := range l.traits {
				if !t.agree(first, second, with) {
					continue stars
				}
			}
			same[f] |= only(s)
		}
	}
	return same
}
