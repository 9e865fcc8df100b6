package blink

import "zoneworks/api"

// set is a set of stars of one sheet, by bits.
type set int

// allOf returns the set of all stars of a sheet.
func allOf(stars []api.Trail) set {
	return 1<<len(stars) - 1
}

// only returns the set of one star.
func only(star int) set {
	return 1 << star
}

// has returns whether a star is in a set.
func (s set) has(star int) bool {
	return s&only(star) != 0
}
