package overlap

import (
	"sort"

	"zoneworks/api"
)

// largest is what no error need be greater than: those of overlaps of two Fixed plates are at most so large, and all
// others are less if plates that are not Fixed have twice 0.
const largest = 3 * api.ZoneReach

// look is a zone that is looked at: which corrections there can be along each direction.
type look struct {
	api.Zone
	east, north reach
}

// lookAt looks at a zone; it refuses one that is not valid.
func lookAt(z api.Zone) look {
	insist(valid(z), api.ErrArg)
	return look{Zone: z, east: reachAlong(z, eastward{}), north: reachAlong(z, northward{})}
}

// insistCorrections refuses what are no corrections for just the plates of the zone.
func (l look) insistCorrections(list []api.Fix) {
	insist(len(list) == l.Plates, api.ErrRange)
	for plate, f := range list {
		insist(f.Plate == plate && isWithin(farthest, f.East, f.North), api.ErrRange)
	}
}

// all returns the set of all overlaps.
func (l look) all() set {
	return 1<<len(l.Overlaps) - 1
}

// can returns whether there are corrections with which no error of a set of overlaps is greater than a size.
func (l look) can(most int, overlaps set) bool {
	if _, ok := l.east(most, overlaps); !ok {
		return false
	}
	_, ok := l.north(most, overlaps)
	return ok
}

// best returns the smallest greatest error of a set of overlaps.
func (l look) best(overlaps set) int {
	return sort.Search(largest, func(most int) bool { return l.can(most, overlaps) })
}

// bestSpans returns the spans of the best corrections of each plate that are anchored, along both directions.
func (l look) bestSpans() (easts, norths []api.Span) {
	best := l.best(l.all())
	easts, _ = l.east(best, l.all())
	norths, _ = l.north(best, l.all())
	return easts, norths
}
