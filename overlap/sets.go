package overlap

import (
	"cmp"
	"iter"
	"math/bits"
	"slices"
)

// set is a set of overlaps, or of plates, by bits.
type set int

// has returns whether a thing is in a set.
func (s set) has(n int) bool {
	return s&(1<<n) != 0
}

// with returns a set and one thing more.
func (s set) with(n int) set {
	return s | 1<<n
}

// without returns a set but for one thing.
func (s set) without(n int) set {
	return s &^ (1 << n)
}

// size returns how many things are in a set.
func (s set) size() int {
	return bits.OnesCount(uint(s))
}

// sets yields all sets of n things: smaller ones first, and of those that are as large the least number first.
func sets(n int) iter.Seq[set] {
	var all []set
	for s := range set(1 << n) {
		all = append(all, s)
	}
	slices.SortStableFunc(all, by(set.size))
	return slices.Values(all)
}

// by returns the order of things by a number that each of them has.
func by[T any](number func(T) int) func(a, b T) int {
	return func(a, b T) int { return cmp.Compare(number(a), number(b)) }
}

// first returns the first thing that suits, or the zero value if none does.
func first[T any](things iter.Seq[T], suits func(T) bool) T {
	for thing := range things {
		if suits(thing) {
			return thing
		}
	}
	var none T
	return none
}
