package screw

import (
	"iter"
	"math/bits"
)

// sets yields all sets of n things, by bits: smaller ones first, and of those that are as large the least number first.
func sets(n int) iter.Seq[int] {
	return func(yield func(int) bool) {
		for size := range n + 1 {
			for set := range 1 << n {
				if bits.OnesCount(uint(set)) == size && !yield(set) {
					return
				}
			}
		}
	}
}

// first returns the first of the sets of n things that is as asked, or the empty one.
func first(n int, asked func(set int) bool) int {
	found := 0
search:
	for set := range sets(n) {
		if asked(set) {
			found = set
			break search
		}
	}
	return found
}
