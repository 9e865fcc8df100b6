package border

import (
	"iter"

	"zoneworks/api"
)

// shift is by how much the second zone is shifted.
type shift struct{ east, north int }

func (s shift) toEast() int { return s.east }

func (s shift) toNorth() int { return s.north }

// look is a border that is looked at, and what its stars are asked for.
type look struct {
	api.Border
	traits []trait
}

// lookAt looks at a border; it refuses one that is not valid.
func lookAt(b api.Border) look {
	insist(valid(b), api.ErrArg)
	return look{Border: b, traits: traits()}
}

// shiftOf returns the shift of two numbers; it refuses what is none of the border.
func (l look) shiftOf(east, north int) shift {
	insist(isIn(east, l.East) && isIn(north, l.North), api.ErrRange)
	return shift{east, north}
}

// sure returns the stars that are Sure.
func (l look) sure() sides {
	return sides{sureOf(l.First), sureOf(l.Second)}
}

// shifts yields all shifts, in order.
func (l look) shifts() iter.Seq[shift] {
	return func(yield func(shift) bool) {
		for east := l.East.Lo; east <= l.East.Hi; east++ {
			for north := l.North.Lo; north <= l.North.Hi; north++ {
				if !yield(shift{east, north}) {
					return
				}
			}
		}
	}
}

// alike is shifts with which the same stars can be the same, in order. They have the same joinings, too.
type alike struct {
	same   sames
	shifts []shift
}

// kinds returns all shifts, those that are alike together, by the order of the first ones of these. There are many shifts,
// and mostly few kinds of them; so joinings are gone through once for each kind.
func (l look) kinds() []alike {
	var kinds []alike
	numbers := map[sames]int{}
	for s := range l.shifts() {
		same := l.sameWith(s)
		n, there := numbers[same]
		if !there {
			n = len(kinds)
			numbers[same] = n
			kinds = append(kinds, alike{same: same})
		}
		kinds[n].shifts = append(kinds[n].shifts, s)
	}
	return kinds
}
