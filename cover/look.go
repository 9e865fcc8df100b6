package cover

import (
	"cmp"
	"slices"

	"zoneworks/api"
)

// place is a place of a field.
type place struct{ east, north int }

// look is a field that is looked at.
type look struct {
	api.Field
	// byDay is the plates that are of use, the earliest ones first.
	byDay []int
}

// lookAt looks at a field; it refuses one that is not valid.
func lookAt(f api.Field) look {
	insist(valid(f), api.ErrArg)
	l := look{Field: f}
	for plate, p := range f.Plates {
		if isOfUse(f, p) {
			l.byDay = append(l.byDay, plate)
		}
	}
	slices.SortStableFunc(l.byDay, func(a, b int) int { return cmp.Compare(f.Plates[a].Day, f.Plates[b].Day) })
	return l
}

// all returns the set of all plates.
func (l look) all() set {
	return 1<<len(l.Plates) - 1
}

// some returns a set of plates; it refuses one that has others than those of the field.
func (l look) some(plates int) set {
	insist(0 <= plates && set(plates) <= l.all(), api.ErrRange)
	return set(plates)
}

// place returns a place; it refuses one that is not of the field.
func (l look) place(east, north int) place {
	insist(has(l.East, east) && has(l.North, north), api.ErrRange)
	return place{east, north}
}

// places yields all places of the field in their order.
func (l look) places(yield func(p place) bool) {
	for east := l.East.Lo; east <= l.East.Hi; east++ {
		for north := l.North.Lo; north <= l.North.Hi; north++ {
			if !yield(place{east, north}) {
				return
			}
		}
	}
}

// useful returns the set of the plates that are of use.
func (l look) useful() set {
	var useful set
	for _, plate := range l.byDay {
		useful = useful.with(only(plate))
	}
	return useful
}

// having returns the set of the plates that are of use and have a place.
func (l look) having(p place) set {
	var having set
	for _, plate := range l.byDay {
		if has(l.Plates[plate].East, p.east) && has(l.Plates[plate].North, p.north) {
			having = having.with(only(plate))
		}
	}
	return having
}
