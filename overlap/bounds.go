package overlap

import (
	"slices"

	"zoneworks/api"
)

// bounds tells of one direction what bounds corrections along it: what an overlap says, and what a Fixed plate, or any
// correction, is.
type bounds interface {
	said(o api.Overlap) int
	of(f api.Fix) int
}

// eastward is the bounds of the easts.
type eastward struct{}

func (eastward) said(o api.Overlap) int { return o.East }

func (eastward) of(f api.Fix) int { return f.East }

// northward is the bounds of the norths.
type northward struct{}

func (northward) said(o api.Overlap) int { return o.North }

func (northward) of(f api.Fix) int { return f.North }

// errorOf returns the error of an overlap along a direction.
func errorOf(o api.Overlap, l []api.Fix, along bounds) int {
	return along.said(o) - along.of(l[o.Second]) + along.of(l[o.First])
}

// greatest returns the greatest size of several errors, 0 if there are none.
func greatest(errors ...int) int {
	size := 0
	for _, e := range errors {
		size = max(size, e, -e)
	}
	return size
}

// reach returns the spans from the least to the greatest correction of each plate along a direction, of all that are
// anchored, if no error of a set of overlaps is greater than a size; and whether there are such corrections.
type reach func(most int, overlaps set) ([]api.Span, bool)

// reachAlong returns the reach of a zone along a direction.
func reachAlong(z api.Zone, along bounds) reach {
	start := make([]api.Span, z.Plates)
	for plate := range start {
		start[plate] = anywhere()
	}
	for _, f := range anchored(z) {
		start[f.Plate] = only(along.of(f))
	}
	return func(most int, overlaps set) ([]api.Span, bool) {
		plates := start
		// A bound that comes to a plate comes over other plates, each of them once. If more rounds than that narrow a plate,
		// overlaps contradict each other, and would narrow it until nothing is left.
		for range z.Plates {
			next := narrowed(z, along, plates, most, overlaps)
			if slices.Equal(next, plates) {
				return next, !slices.ContainsFunc(next, isEmpty)
			}
			plates = next
		}
		return nil, false
	}
}

// narrowed returns the spans of all plates after each overlap of a set has narrowed those of both of its plates once.
func narrowed(z api.Zone, along bounds, plates []api.Span, most int, counted set) []api.Span {
	next := make([]api.Span, len(plates))
	copy(next, plates)
overlaps:
	for n, o := range z.Overlaps {
		if !counted.has(n) {
			continue overlaps
		}
		apart := around(along.said(o), most)
		next[o.Second] = join(next[o.Second], add(next[o.First], apart))
		next[o.First] = join(next[o.First], less(next[o.Second], apart))
	}
	return next
}
