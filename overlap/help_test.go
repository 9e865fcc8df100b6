package overlap_test

import (
	"math/bits"
	"math/rand/v2"
	"testing"

	"zoneworks/api"
	"zoneworks/overlap"
)

func span(lo, hi int) api.Span { return api.Span{Lo: lo, Hi: hi} }

// only is the span of one number.
func only(n int) api.Span { return span(n, n) }

// over is an overlap.
func over(first, second, east, north int) api.Overlap {
	return api.Overlap{First: first, Second: second, East: east, North: north}
}

// at is a correction, or a Fixed plate.
func at(plate, east, north int) api.Fix { return api.Fix{Plate: plate, East: east, North: north} }

// zone is a zone of so many plates, none of which is Fixed.
func zone(plates int, l ...api.Overlap) api.Zone { return api.Zone{Plates: plates, Overlaps: l} }

// fixed is a zone with Fixed plates.
func fixed(z api.Zone, l ...api.Fix) api.Zone {
	z.Fixed = l
	return z
}

// zoneZ is the zone Z of the chapter.
func zoneZ() api.Zone {
	return zone(4, over(0, 1, 10, 0), over(1, 2, 20, 5), over(0, 2, 36, 2), over(2, 3, 7, 7))
}

// zoneF is the zone F of the chapter.
func zoneF() api.Zone { return fixed(zoneZ(), at(0, 0, 0), at(3, 50, 10)) }

// ring is plates each of which overlaps the next one, and the last one the first: all by as much.
func ring(plates, east, north int) api.Zone {
	z := zone(plates)
	for n := range plates {
		z.Overlaps = append(z.Overlaps, over(n, (n+1)%plates, east, north))
	}
	return z
}

// fixes is corrections of plates in order, each with its east and its north.
func fixes(l ...[2]int) []api.Fix {
	var list []api.Fix
	for n, f := range l {
		list = append(list, at(n, f[0], f[1]))
	}
	return list
}

// both is a span along each direction.
type both [2]api.Span

// told is all that the package tells of a zone, but for Greatest; without is by greatest errors.
type told struct {
	best, rigid, proof int
	adjust             []api.Fix
	ranges             []both
	costs, without     []int
}

// tellAll calls all functions of the package but Greatest, and fails if one of them refuses the zone.
func tellAll(t *testing.T, z api.Zone, mosts ...int) told {
	t.Helper()
	var x told
	var e api.Errno
	note := func() {
		t.Helper()
		same(t, "an error", e, api.OK)
	}
	x.best, e = overlap.Best(z)
	note()
	x.adjust, e = overlap.Adjust(z)
	note()
	for plate := range z.Plates {
		var b both
		b[0], b[1], e = overlap.Range(z, plate)
		note()
		x.ranges = append(x.ranges, b)
	}
	x.rigid, e = overlap.Rigid(z)
	note()
	x.proof, e = overlap.Proof(z)
	note()
	x.costs, e = overlap.Costs(z)
	note()
	for _, most := range mosts {
		var set int
		set, e = overlap.Without(z, most)
		note()
		x.without = append(x.without, set)
	}
	return x
}

// bestOf returns the greatest error of the best corrections.
func bestOf(z api.Zone) int {
	n, _ := overlap.Best(z)
	return n
}

// greatestOf returns the greatest error of corrections.
func greatestOf(z api.Zone, l []api.Fix) int {
	n, _, _ := overlap.Greatest(z, l)
	return n
}

// alone returns a zone with the overlaps of a set only.
func alone(z api.Zone, set int) api.Zone {
	var kept []api.Overlap
	for n, o := range z.Overlaps {
		if has(set, n) {
			kept = append(kept, o)
		}
	}
	z.Overlaps = kept
	return z
}

// copyOf returns a zone that shares no memory with another one.
func copyOf(z api.Zone) api.Zone {
	z.Overlaps = append([]api.Overlap{}, z.Overlaps...)
	z.Fixed = append([]api.Fix{}, z.Fixed...)
	return z
}

func has(set, n int) bool { return set&(1<<n) != 0 }

func size(set int) int { return bits.OnesCount(uint(set)) }

// pick returns a number from lo to hi.
func pick(r *rand.Rand, lo, hi int) int { return lo + r.IntN(hi-lo+1) }

// random returns generators whose numbers are always the same.
func random() *rand.Rand { return rand.New(rand.NewPCG(5, 5)) }

// anyZone returns a zone of at most so many plates and overlaps, and with numbers at most so far from 0.
func anyZone(r *rand.Rand, plates, overlaps, reach int) api.Zone {
	z := zone(pick(r, 1, plates))
	number := func() int { return pick(r, -reach, reach) }
	for range pick(r, 0, overlaps) {
		first, second := r.IntN(z.Plates), r.IntN(z.Plates)
		if first != second {
			z.Overlaps = append(z.Overlaps, over(first, second, number(), number()))
		}
	}
	for _, plate := range r.Perm(z.Plates)[:max(0, pick(r, -2, min(3, z.Plates)))] {
		z.Fixed = append(z.Fixed, at(plate, number(), number()))
	}
	return z
}

// same fails unless both are the same.
func same[T comparable](t *testing.T, what string, got, want T) {
	t.Helper()
	if got != want {
		t.Errorf("%s: %v, not %v", what, got, want)
	}
}
