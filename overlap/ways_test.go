package overlap_test

import (
	"math/rand/v2"
	"reflect"
	"testing"

	"zoneworks/api"
)

// Another slow way, for zones of all sizes. The errors along a way over overlaps, from a plate back to itself, or from a
// plate that is Fixed to another one, are together what the way is off; so one of them is at least that, divided by how
// many there are. If no error need be greater for any way, there are corrections with which none is.

// way is a way over overlaps from a plate to another one, over each plate once: by how much the correction of the last
// one would be greater if there were no errors.
type way struct {
	from, to, set, steps int
	off                  [2]int
}

// ways returns all ways of a zone: over each plate at most once, but a way can come back to where it began.
func ways(z api.Zone) []way {
	var all []way
	var walk func(w way, over int)
	walk = func(w way, over int) {
		all = append(all, w)
		if w.from == w.to && w.steps > 0 {
			return
		}
		for n, o := range z.Overlaps {
			for _, turned := range []bool{false, true} {
				from, to, sign := o.First, o.Second, 1
				if turned {
					from, to, sign = to, from, -1
				}
				if from != w.to || has(w.set, n) || has(over, to) && to != w.from {
					continue
				}
				walk(way{w.from, to, w.set | 1<<n, w.steps + 1, [2]int{w.off[0] + sign*o.East, w.off[1] + sign*o.North}}, over|1<<to)
			}
		}
	}
	for plate := range z.Plates {
		walk(way{from: plate, to: plate}, 1<<plate)
	}
	return all
}

// needed returns how great some error along a way must be, and whether it tells anything of that.
func needed(z api.Zone, w way) (int, bool) {
	var at [2][2]int
	both := 0
	for _, f := range z.Fixed {
		if f.Plate == w.from {
			at[0], both = [2]int{f.East, f.North}, both|1
		}
		if f.Plate == w.to {
			at[1], both = [2]int{f.East, f.North}, both|2
		}
	}
	if w.steps == 0 || w.from != w.to && both != 3 {
		return 0, false
	}
	size := 0
	for direction, off := range w.off {
		if w.from != w.to {
			off -= at[1][direction] - at[0][direction]
		}
		size = max(size, (max(off, -off)+w.steps-1)/w.steps)
	}
	return size, true
}

// bestsByWays returns the greatest error of the best corrections, for each set of overlaps alone.
func bestsByWays(z api.Zone, all []way) []int {
	bests := make([]int, 1<<len(z.Overlaps))
	for _, w := range all {
		if size, ok := needed(z, w); ok {
			bests[w.set] = max(bests[w.set], size)
		}
	}
	// The best of a set is the greatest of what is needed for the ways over any part of it.
	for n := range z.Overlaps {
		for set := range bests {
			if has(set, n) {
				bests[set] = max(bests[set], bests[set&^(1<<n)])
			}
		}
	}
	return bests
}

// rangesByWays returns between which corrections each plate has some: not farther than the errors along any way from what
// is known allow.
func rangesByWays(z api.Zone, all []way, best int) []both {
	const far = 1 << 50
	ranges := make([]both, z.Plates)
	for direction := range 2 {
		for plate := range ranges {
			ranges[plate][direction] = span(-far, far)
		}
		anchors := slowAnchors(z, direction)
		for _, w := range all {
			n, ok := anchors[w.from]
			if !ok || w.from == w.to && w.steps > 0 {
				continue
			}
			s := &ranges[w.to][direction]
			n += w.off[direction]
			*s = span(max(s.Lo, n-best*w.steps), min(s.Hi, n+best*w.steps))
		}
	}
	return ranges
}

// large returns a zone of any size; what it tells is more or less near to what is true.
func large(r *rand.Rand) api.Zone {
	switch r.IntN(5) {
	case 0:
		return anyZone(r, 8, 12, []int{2, 30, 1 << 30}[r.IntN(3)])
	case 1:
		return round(r)
	}
	z, _ := measured(r, pick(r, 0, 9))
	for i := range z.Overlaps {
		if r.IntN(9) == 0 {
			z.Overlaps[i].East += pick(r, -40, 40)
		}
	}
	return z
}

// round returns a zone whose plates lie round in a ring, so that what proves something is large.
func round(r *rand.Rand) api.Zone {
	z := ring(pick(r, 2, 8), 0, 0)
	for i := range z.Overlaps {
		z.Overlaps[i].East, z.Overlaps[i].North = pick(r, -9, 30), pick(r, -9, 30)
	}
	if r.IntN(2) == 0 {
		z.Overlaps = append(z.Overlaps, over(0, 1, pick(r, -9, 30), pick(r, -9, 30)))
	}
	r.Shuffle(len(z.Overlaps), func(i, j int) { z.Overlaps[i], z.Overlaps[j] = z.Overlaps[j], z.Overlaps[i] })
	return z
}

// P5.2 to P5.8, for zones of all sizes.
func TestAgainstAllWays(t *testing.T) {
	r := random()
	var proofs, withouts [13]int
	for i := range 1200 {
		z := large(r)
		all := ways(z)
		bests := bestsByWays(z, all)
		best := bests[len(bests)-1]
		mosts := []int{0, best / 2, max(0, best-1), best, best + 1}
		want := slowSets(z, bests, mosts).withRanges(rangesByWays(z, all, best))
		if got := tellAll(t, z, mosts...); !reflect.DeepEqual(got, want) {
			t.Fatalf("%d: %+v\n%+v, not\n%+v", i, z, got, want)
		}
		proofs[size(want.proof)]++
		withouts[size(want.without[0])]++
	}
	if proofs[0] < 50 || proofs[2] < 50 || proofs[3] < 50 || proofs[4] < 50 || proofs[8] < 10 || withouts[1] < 50 || withouts[2] < 50 || withouts[4] < 30 {
		t.Error("too few zones of a kind:", proofs, withouts)
	}
}
