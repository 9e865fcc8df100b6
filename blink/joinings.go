package blink

import (
	"iter"

	"zoneworks/api"
)

// field is a blink that is looked at, and what each two stars of it can be.
type field struct {
	look
	can table
}

// fieldOf looks at a blink, and at all of its pairs.
func fieldOf(b api.Blink) field {
	l := lookAt(b)
	return field{l, l.table(l.first, l.second)}
}

// joining is, for each star of First, the star of Second that is in a pair with it, or NoTwin.
type joining [api.ImageSpots]int

// noPairs returns the joining without any pair.
func noPairs() joining {
	var j joining
	for first := range j {
		j[first] = api.NoTwin
	}
	return j
}

// pairs yields the pairs of a joining.
func (j *joining) pairs(yield func(first, second int) bool) {
	for first, second := range j {
		if second != api.NoTwin && !yield(first, second) {
			return
		}
	}
}

// spare returns how many stars of First can be in no pair, if at most so many stars of both sheets are; it is below 0 if
// there are too few of them for the pairs that there must be. Each pair has a star of both sheets, so there are as many
// pairs as stars of First in a pair.
func (f field) spare(gone int) int {
	stars := len(f.first) + len(f.second)
	pairs := (max(stars-gone, 0) + 1) / 2
	return len(f.first) - pairs
}

// joinings yields all sets of pairs that leave at most so many stars alone, in lexicographic order.
func (f field) joinings(gone int) iter.Seq[joining] {
	return func(yield func(joining) bool) {
		j := noPairs()
		var join func(first, spare int, free set) bool
		join = func(first, spare int, free set) bool {
			if spare < 0 {
				return true
			}
			if first == len(f.first) {
				return yield(j)
			}
			j[first] = api.NoTwin
			if !join(first+1, spare-1, free) {
				return false
			}
			for second, can := range f.can[first] {
				if can == 0 || !free.has(second) {
					continue
				}
				j[first] = second
				if !join(first+1, spare, free&^only(second)) {
					return false
				}
			}
			return true
		}
		join(0, f.spare(gone), allOf(f.second))
	}
}

// fewest returns the first joining with the most pairs; it refuses a blink that has none. The more pairs, the fewer stars
// are alone: so it is the first one with the least number of them with which there is any.
func (f field) fewest() joining {
	for gone := range f.Gone + 1 {
		for j := range f.joinings(gone) {
			return j
		}
	}
	panic(api.ErrRefuse)
}
