package border

import (
	"iter"

	"zoneworks/api"
)

// joining is, for each star of First, the star of Second that is in a pair with it, or NoEdge.
type joining [api.BorderStars]int

// noPairs returns the joining without any pair.
func noPairs() joining {
	var j joining
	for first := range j {
		j[first] = api.NoEdge
	}
	return j
}

// paired returns the stars that are in a pair.
func (j joining) paired() sides {
	var in sides
	for first, second := range j {
		if second != api.NoEdge {
			in.first |= only(first)
			in.second |= only(second)
		}
	}
	return in
}

// joinings yields all joinings of stars that can be the same, in lexicographic order, when just the given stars are Sure.
func (l look) joinings(same sames, sure sides) iter.Seq[joining] {
	return func(yield func(joining) bool) {
		var join func(j joining, first int, free set) bool
		join = func(j joining, first int, free set) bool {
			if first == len(l.First) {
				return sure.second&free != 0 || yield(j)
			}
			if !sure.first.has(first) && !join(j, first+1, free) {
				return false
			}
			for second := range (same[first] & free).stars {
				j[first] = second
				if !join(j, first+1, free&^only(second)) {
					return false
				}
			}
			return true
		}
		join(noPairs(), 0, allOf(l.Second))
	}
}
