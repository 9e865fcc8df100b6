package plate

import (
	"math/bits"

	"zoneworks/api"
)

// set is a set of stars, by bits.
type set int

// has returns whether a star is in a set.
func (s set) has(star int) bool {
	return s&(1<<star) != 0
}

// size returns how many stars are in a set.
func (s set) size() int {
	return bits.OnesCount(uint(s))
}

// fewest returns the set of the fewest stars of all that is as asked, and of several the least number; none if none is.
func fewest(all set, asked func(set) bool) set {
	var found set
	var try func(taken set, below, more int) bool
	// A star is left out before it is taken, from the greatest number on, so that lesser numbers of sets come first.
	try = func(taken set, below, more int) bool {
		if more == 0 {
			found = taken
			return asked(taken)
		}
		if below < more {
			return false
		}
		star := below - 1
		return try(taken, star, more) || all.has(star) && try(taken|1<<star, star, more-1)
	}
	for size := range all.size() + 1 {
		if try(0, api.PlateStars, size) {
			return found
		}
	}
	return 0
}
