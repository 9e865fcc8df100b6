package border

import (
	"cmp"
	"math/bits"

	"zoneworks/api"
)

// set is a set of stars of one zone, by bits.
type set int

// allOf returns the set of all stars of a zone.
func allOf(stars []api.Edge) set {
	return 1<<len(stars) - 1
}

// only returns the set of one star, or of none, if it is NoEdge.
func only(star int) set {
	if star == api.NoEdge {
		return 0
	}
	return 1 << star
}

// sureOf returns the set of the stars of a zone that are Sure.
func sureOf(stars []api.Edge) set {
	var sure set
	for n, star := range stars {
		if star.Sure {
			sure |= only(n)
		}
	}
	return sure
}

// has returns whether a star is in a set.
func (s set) has(star int) bool {
	return s&only(star) != 0
}

// size returns how many stars are in a set.
func (s set) size() int {
	return bits.OnesCount(uint(s))
}

// stars yields the stars of a set, by rising numbers.
func (s set) stars(yield func(star int) bool) {
	for s != 0 {
		star := bits.TrailingZeros(uint(s))
		if !yield(star) {
			return
		}
		s &^= only(star)
	}
}

// parts yields all sets of stars of a set.
func (s set) parts(yield func(part set) bool) {
	for part := s; yield(part) && part != 0; {
		part = (part - 1) & s
	}
}

// sides is a set of stars of each zone.
type sides struct{ first, second set }

// size returns how many stars are in both sets together.
func (s sides) size() int {
	return s.first.size() + s.second.size()
}

// fewer is the order of sides: those with fewer stars first, then those with the lesser set of First, and of Second.
func fewer(a, b sides) int {
	return cmp.Or(cmp.Compare(a.size(), b.size()), cmp.Compare(a.first, b.first), cmp.Compare(a.second, b.second))
}

// least returns the least of several things in an order, the first one of those that are equal; the zero value of none.
func least[T any](order func(a, b T) int, several ...T) T {
	var found T
	for n, thing := range several {
		if n == 0 || order(thing, found) < 0 {
			found = thing
		}
	}
	return found
}
