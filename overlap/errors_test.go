package overlap_test

import (
	"math"
	"reflect"
	"slices"
	"testing"

	"zoneworks/api"
	"zoneworks/overlap"
)

// beyond is farther from 0 than any number of a zone.
const beyond = 1<<30 + 1

// refused fails unless each function refuses a zone with ErrArg, whatever else is wrong, and tells nothing (R1, R2).
func refused(t *testing.T, name string, z api.Zone) {
	t.Helper()
	none := func(what string, e api.Errno, numbers ...int) {
		t.Helper()
		same(t, what+", "+name, e, api.ErrArg)
		for _, n := range numbers {
			same(t, what+", "+name, n, 0)
		}
	}
	for _, l := range [][]api.Fix{nil, fixes([2]int{}), fixes([2]int{}, [2]int{}, [2]int{}, [2]int{}), {at(7, math.MinInt, math.MaxInt)}} {
		size, n, e := overlap.Greatest(z, l)
		none("Greatest", e, size, n)
	}
	n, e := overlap.Best(z)
	none("Best", e, n)
	l, e := overlap.Adjust(z)
	none("Adjust", e, len(l))
	for _, plate := range []int{0, -1, 3, 99, math.MinInt, math.MaxInt} {
		a, b, e := overlap.Range(z, plate)
		none("Range", e, a.Lo, a.Hi, b.Lo, b.Hi)
	}
	n, e = overlap.Rigid(z)
	none("Rigid", e, n)
	n, e = overlap.Proof(z)
	none("Proof", e, n)
	costs, e := overlap.Costs(z)
	none("Costs", e, len(costs))
	for _, most := range []int{0, 5, -1, 1<<40 + 1, math.MinInt, math.MaxInt} {
		n, e = overlap.Without(z, most)
		none("Without", e, n)
	}
}

// taken fails unless all functions take a zone.
func taken(t *testing.T, name string, z api.Zone) {
	t.Helper()
	x := tellAll(t, z, 0, 1<<40)
	_, _, e := overlap.Greatest(z, x.adjust)
	same(t, name, e, api.OK)
}

// Terms: how many plates there are.
func TestValidPlates(t *testing.T) {
	for _, n := range []int{0, -1, 9, 10, 64, math.MinInt, math.MaxInt} {
		refused(t, "so many plates", zone(n))
		refused(t, "so many plates, and overlaps", zone(n, over(0, 1, 0, 0)))
		refused(t, "so many plates, and Fixed", fixed(zone(n), at(0, 0, 0)))
	}
	for n := 1; n <= 8; n++ {
		taken(t, "so many plates", zone(n))
		z := zone(n)
		for plate := range n {
			z.Fixed = append(z.Fixed, at(plate, plate, -plate))
		}
		taken(t, "so many Fixed plates", z)
	}
}

// Terms: how many overlaps there are, at most.
func TestValidMany(t *testing.T) {
	for _, n := range []int{13, 14, 64, 100} {
		refused(t, "many overlaps", zone(2, slices.Repeat([]api.Overlap{over(0, 1, 0, 0)}, n)...))
	}
	for _, n := range []int{0, 1, 11, 12} {
		taken(t, "some overlaps", zone(2, slices.Repeat([]api.Overlap{over(0, 1, 0, 0)}, n)...))
	}
}

// Terms: which overlaps are valid; each one is looked at.
func TestValidOverlaps(t *testing.T) {
	for n := range zoneZ().Overlaps {
		for _, bad := range []api.Overlap{
			over(0, 0, 1, 1), over(3, 3, 1, 1), over(-1, 0, 1, 1), over(0, -1, 1, 1), over(4, 0, 1, 1), over(0, 4, 1, 1), over(-1, 4, 1, 1), over(-1, -1, 1, 1), over(math.MinInt, 1, 0, 0), over(1, math.MaxInt, 0, 0), over(1, 65, 0, 0),
			over(0, 1, beyond, 0), over(0, 1, -beyond, 0), over(0, 1, 0, beyond), over(0, 1, 0, -beyond), over(0, 1, math.MinInt, 0), over(0, 1, 0, math.MaxInt), over(0, 1, math.MaxInt, math.MinInt),
		} {
			z := zoneF()
			z.Overlaps[n] = bad
			refused(t, "an overlap", z)
		}
		for _, good := range []api.Overlap{
			over(0, 3, 0, 0), over(3, 0, 0, 0), over(0, 1, beyond-1, beyond-1), over(2, 1, 1-beyond, 1-beyond), over(1, 2, 1-beyond, beyond-1),
		} {
			z := zoneF()
			z.Overlaps[n] = good
			taken(t, "an overlap", z)
		}
	}
}

// Terms: which Fixed plates are valid; each one is looked at, and none comes twice.
func TestValidFixed(t *testing.T) {
	for n := range zoneF().Fixed {
		for _, bad := range []api.Fix{
			at(-1, 0, 0), at(4, 0, 0), at(64, 0, 0), at(math.MinInt, 0, 0), at(math.MaxInt, 0, 0),
			at(1, beyond, 0), at(1, -beyond, 0), at(1, 0, beyond), at(1, 0, -beyond), at(1, math.MinInt, 0), at(1, 0, math.MinInt), at(1, math.MaxInt, 0), at(1, 0, math.MaxInt),
		} {
			z := zoneF()
			z.Fixed[n] = bad
			refused(t, "a Fixed plate", z)
		}
		for _, good := range []api.Fix{at(1, 0, 0), at(2, beyond-1, 1-beyond), at(1, 1-beyond, beyond-1)} {
			z := zoneF()
			z.Fixed[n] = good
			taken(t, "a Fixed plate", z)
		}
	}
	refused(t, "twice the same", fixed(zoneZ(), at(0, 0, 0), at(0, 0, 0)))
	refused(t, "twice with others between", fixed(zoneZ(), at(2, 0, 0), at(1, 0, 0), at(3, 0, 0), at(2, 5, 5)))
	refused(t, "all of them, and one twice", fixed(zoneZ(), at(0, 0, 0), at(1, 0, 0), at(2, 0, 0), at(3, 0, 0), at(3, 0, 0)))
	refused(t, "too many", fixed(zoneZ(), slices.Repeat([]api.Fix{at(0, 0, 0)}, 1000)...))
	taken(t, "in another order", fixed(zoneZ(), at(3, 1, 1), at(0, 0, 0), at(2, 5, 5)))
}

// Errors: ErrRange unless corrections are some, for just the plates of the zone; and nothing else is told (R2).
func TestNoCorrections(t *testing.T) {
	const far = 1 << 40
	good := fixes([2]int{0, 0}, [2]int{1, 1}, [2]int{2, 2}, [2]int{3, 3})
	bad := [][]api.Fix{
		nil, {}, good[:1], good[:3], append(good[:4:4], at(4, 0, 0)), append(good[:4:4], at(3, 3, 3)), append(good[:3:3], at(2, 0, 0)), append(good[:3:3], at(4, 0, 0)), append(good[:3:3], at(-1, 0, 0)), good[1:],
		{at(1, 1, 1), at(0, 0, 0), at(2, 2, 2), at(3, 3, 3)}, {at(3, 0, 0), at(2, 0, 0), at(1, 0, 0), at(0, 0, 0)}, make([]api.Fix, 4), make([]api.Fix, 100),
	}
	for n := range good {
		for _, f := range [][2]int{{far + 1, 0}, {-far - 1, 0}, {0, far + 1}, {0, -far - 1}, {math.MinInt, 0}, {0, math.MinInt}, {math.MaxInt, 0}, {0, math.MaxInt}} {
			l := slices.Clone(good)
			l[n] = at(n, f[0], f[1])
			bad = append(bad, l)
		}
		for _, f := range [][2]int{{far, -far}, {-far, far}} {
			l := slices.Clone(good)
			l[n] = at(n, f[0], f[1])
			_, _, e := overlap.Greatest(zoneZ(), l)
			same(t, "as far as can be", e, api.OK)
		}
	}
	for _, z := range []api.Zone{zoneZ(), zoneF(), zone(4)} {
		for _, l := range bad {
			size, n, e := overlap.Greatest(z, l)
			same(t, "Greatest", [2]int{size, n}, [2]int{})
			same(t, "Greatest", e, api.ErrRange)
		}
	}
}

// Errors: ErrRange unless numbers of plates are such, and a greatest error is one; and nothing else is told (R2).
func TestOutOfRange(t *testing.T) {
	for _, z := range []api.Zone{zoneZ(), zoneF(), zone(1), zone(8), ring(8, 1, 2)} {
		for _, none := range []int{-1, z.Plates, z.Plates + 1, 64, math.MinInt, math.MaxInt} {
			a, b, e := overlap.Range(z, none)
			same(t, "Range", both{a, b}, both{})
			same(t, "Range", e, api.ErrRange)
		}
		_, _, e := overlap.Range(z, z.Plates-1)
		same(t, "Range of the last one", e, api.OK)
		for _, none := range []int{-1, 1<<40 + 1, math.MinInt, math.MaxInt} {
			n, e := overlap.Without(z, none)
			same(t, "Without", n, 0)
			same(t, "Without", e, api.ErrRange)
		}
		for _, most := range []int{0, 1 << 40} {
			_, e := overlap.Without(z, most)
			same(t, "Without", e, api.OK)
		}
	}
}

// R3: a nil list is an empty one.
func TestNilAndEmpty(t *testing.T) {
	empty := fixed(zone(3, []api.Overlap{}...), []api.Fix{}...)
	none := api.Zone{Plates: 3}
	empty.Overlaps, empty.Fixed = []api.Overlap{}, []api.Fix{}
	if a, b := tellAll(t, empty, 0), tellAll(t, none, 0); !reflect.DeepEqual(a, b) {
		t.Error(a, b)
	}
}

// R4, and the second half of P12: no argument is changed, not even what is behind its lists; what is asked again is told
// again; and no result is memory of another one.
func TestArgumentsStay(t *testing.T) {
	for _, z := range []api.Zone{zoneZ(), zoneF(), zone(3), fixed(zone(4), at(2, 5, 5)), ring(8, 3, 4)} {
		z.Overlaps = append(z.Overlaps, over(1, 0, 77, 88))[:len(z.Overlaps)]
		z.Fixed = append(z.Fixed, at(1, 77, 88), at(2, 77, 88), at(3, 77, 88))[:len(z.Fixed)]
		behind, behindFixed := z.Overlaps[:len(z.Overlaps)+1], z.Fixed[:len(z.Fixed)+3]
		before, beforeOverlaps, beforeFixed := copyOf(z), slices.Clone(behind), slices.Clone(behindFixed)
		a, b := tellAll(t, z, 0, 1, 2, 3), tellAll(t, z, 0, 1, 2, 3)
		if !reflect.DeepEqual(a, b) {
			t.Error(a, b)
		}
		l := slices.Clone(a.adjust)
		size, n, _ := overlap.Greatest(z, l)
		again, m, _ := overlap.Greatest(z, l)
		same(t, "Greatest again", [2]int{again, m}, [2]int{size, n})
		for i := range b.adjust {
			b.adjust[i] = at(99, 99, 99)
		}
		clear(b.costs)
		if !slices.Equal(l, a.adjust) || !reflect.DeepEqual(a, tellAll(t, z, 0, 1, 2, 3)) {
			t.Error("a result was changed with another one", a)
		}
		if !reflect.DeepEqual(copyOf(z), before) || !slices.Equal(behind, beforeOverlaps) || !slices.Equal(behindFixed, beforeFixed) {
			t.Error(z, before)
		}
	}
}

// P1: the largest zones end, and nothing overflows.
func TestLargest(t *testing.T) {
	const reach = 1 << 30
	z := ring(8, reach, reach)
	for n := range 4 {
		z.Overlaps = append(z.Overlaps, over(n, n+4, -reach, reach))
	}
	x := tellAll(t, z, 0, reach, 3*reach, 1<<40)
	same(t, "Best", x.best, reach)
	z = fixed(z, at(0, -reach, reach), at(4, reach, -reach))
	x = tellAll(t, z, 0, reach, 3*reach, 1<<40)
	same(t, "Best", x.best, 3*reach)
	same(t, "Proof", x.proof, 1<<8)
	same(t, "Without", x.without[3], 0)
	for n := range z.Plates {
		z.Fixed = append(z.Fixed[:n:n], at(n, reach-2*reach*(n%2), 0))
	}
	same(t, "Best, all Fixed", bestOf(z), 3*reach)
}
