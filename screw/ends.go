package screw

import (
	"cmp"

	"zoneworks/api"
)

// ends is both ends of what is known.
type ends[T cmp.Ordered] struct{ lo, hi T }

// hold returns whether others are in order, and neither of them is outside.
func (e ends[T]) hold(others ends[T]) bool {
	return e.lo <= others.lo && others.lo <= others.hi && others.hi <= e.hi
}

// has returns whether one thing is between both ends.
func (e ends[T]) has(one T) bool {
	return e.hold(ends[T]{one, one})
}

// known returns both ends of a span.
func known(s api.Span) ends[int] {
	return ends[int]{s.Lo, s.Hi}
}

// span returns what is known as a span.
func span(e ends[int]) api.Span {
	return api.Span{Lo: e.lo, Hi: e.hi}
}

// add returns both ends of what numbers, one of each, are together.
func add(all ...ends[int]) ends[int] {
	total := ends[int]{}
	for _, e := range all {
		total.lo += e.lo
		total.hi += e.hi
	}
	return total
}

// every returns whether all spans are as asked.
func every(spans []api.Span, asked func(ends[int]) bool) bool {
	for _, s := range spans {
		if !asked(known(s)) {
			return false
		}
	}
	return true
}
