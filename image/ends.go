package image

import "zoneworks/api"

// far is more than any number that a sheet leaves to a star.
const far = 1 << 30

// ends is the least and the greatest of some numbers. There are none if the least one is the greater one.
type ends[T ~int] struct{ lo, hi T }

// known returns the ends of a span.
func known(s api.Span) ends[int] {
	return ends[int]{s.Lo, s.Hi}
}

// anything returns the ends of all numbers.
func anything() ends[int] {
	return ends[int]{-far, far}
}

// nothing returns the ends of no numbers; either of them and others is the others.
func nothing() ends[int] {
	return ends[int]{far, -far}
}

// span returns both ends as a span.
func (e ends[T]) span() api.Span {
	return api.Span{Lo: int(e.lo), Hi: int(e.hi)}
}

// none returns whether there are no numbers.
func (e ends[T]) none() bool {
	return e.lo > e.hi
}

// has returns whether a number is one of them.
func (e ends[T]) has(n T) bool {
	return e.lo <= n && n <= e.hi
}

// hold returns whether there are others, and all of them are among these.
func (e ends[T]) hold(others ends[T]) bool {
	return !others.none() && e.has(others.lo) && e.has(others.hi)
}

// both returns the ends of the numbers that are among these and among others.
func (e ends[T]) both(others ends[T]) ends[T] {
	return ends[T]{max(e.lo, others.lo), min(e.hi, others.hi)}
}

// either returns the ends of these and of others together.
func (e ends[T]) either(others ends[T]) ends[T] {
	return ends[T]{min(e.lo, others.lo), max(e.hi, others.hi)}
}

// more returns the ends of these numbers when each of them is greater by one of others.
func (e ends[T]) more(by ends[T]) ends[T] {
	return ends[T]{e.lo + by.lo, e.hi + by.hi}
}

// less returns the ends of these numbers when each of them is less by one of others. None stay none: what is at no
// number at all is not at one because the others are wide.
func (e ends[T]) less(by ends[T]) ends[T] {
	if e.none() {
		return e
	}
	return e.more(ends[T]{-by.hi, -by.lo})
}
