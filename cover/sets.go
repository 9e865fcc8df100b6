package cover

import (
	"iter"
	"math/bits"
)

// set is a set of plates, by bits.
type set int

// only returns the set of one plate.
func only(plate int) set {
	return 1 << plate
}

// has returns whether a plate is in a set.
func (s set) has(plate int) bool {
	return s&only(plate) != 0
}

// with returns the plates of a set and those of another one.
func (s set) with(other set) set {
	return s | other
}

// without returns the plates of a set but for those of another one.
func (s set) without(other set) set {
	return s &^ other
}

// isIn returns whether all plates of a set are in another one.
func (s set) isIn(other set) bool {
	return s.without(other) == 0
}

// size returns how many plates are in a set.
func (s set) size() int {
	return bits.OnesCount(uint(s))
}

// sized yields the parts of a set that have a size, the least number first.
func (s set) sized(size int) iter.Seq[set] {
	return func(yield func(part set) bool) {
		for part := range s + 1 {
			if part.size() == size && part.isIn(s) && !yield(part) {
				return
			}
		}
	}
}

// parts yields all parts of a set: smaller ones first, and of those that are as large the least number first.
func (s set) parts(yield func(part set) bool) {
sizes:
	for size := range s.size() + 1 {
		for part := range s.sized(size) {
			if !yield(part) {
				break sizes
			}
		}
	}
}

// first returns the first thing that is as asked, and whether any is.
func first[T any](things iter.Seq[T], asked func(T) bool) (found T, is bool) {
	for thing := range things {
		if asked(thing) {
			return thing, true
		}
	}
	return found, false
}
