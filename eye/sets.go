package eye

import (
	"iter"
	"math/bits"
)

// set is a set of looks, or of measurers, by bits.
type set int

// all returns the set of n things.
func all(n int) set {
	return 1<<n - 1
}

// has returns whether a thing is in a set.
func (s set) has(i int) bool {
	return s&(1<<i) != 0
}

// size returns how many things are in a set.
func (s set) size() int {
	return bits.OnesCount(uint(s))
}

// sets yields all sets of n things: smaller ones first, and of those that are as large the least number first.
func sets(n int) iter.Seq[set] {
	return func(yield func(set) bool) {
		for size := range n + 1 {
			for s := range all(n) + 1 {
				if s.size() == size && !yield(s) {
					return
				}
			}
		}
	}
}

// first returns the first of some things that is as asked, or the zero value if none is.
func first[T any](things iter.Seq[T], asked func(T) bool) T {
	var found T
search:
	for thing := range things {
		if asked(thing) {
			found = thing
			break search
		}
	}
	return found
}
