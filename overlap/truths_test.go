package overlap_test

import (
	"math/rand/v2"
	"reflect"
	"testing"

	"zoneworks/api"
)

// A slow way, which goes through all corrections that are near enough: every small zone is told by it, too.

// along returns what an overlap says along a direction, and what a Fixed plate has.
func along(direction int, o api.Overlap, f api.Fix) (said, has int) {
	if direction == 0 {
		return o.East, f.East
	}
	return o.North, f.North
}

// slowAnchors returns what plates have in all anchored corrections that are allowed, along a direction; nothing of others.
func slowAnchors(z api.Zone, direction int) map[int]int {
	anchors := map[int]int{}
	for _, f := range z.Fixed {
		_, anchors[f.Plate] = along(direction, api.Overlap{}, f)
	}
	for plate := range z.Plates {
		part := map[int]bool{plate: true}
		for range z.Plates {
			for _, o := range z.Overlaps {
				if part[o.First] || part[o.Second] {
					part[o.First], part[o.Second] = true, true
				}
			}
		}
		alone := true
		for other := range z.Plates {
			for _, f := range z.Fixed {
				alone = alone && !(part[other] && f.Plate == other)
			}
			alone = alone && !(part[other] && other < plate)
		}
		if alone {
			anchors[plate] = 0
		}
	}
	return anchors
}

// near returns how far from 0 corrections need be looked for: no error need be greater than without any corrections.
func near(z api.Zone) int {
	numbers, error := 0, 0
	corrections := make([]api.Fix, z.Plates)
	for _, f := range z.Fixed {
		corrections[f.Plate] = f
		numbers = max(numbers, f.East, -f.East, f.North, -f.North)
	}
	for _, o := range z.Overlaps {
		first, second := corrections[o.First], corrections[o.Second]
		east, north := o.East-second.East+first.East, o.North-second.North+first.North
		error = max(error, east, -east, north, -north)
		numbers = max(numbers, o.East, -o.East, o.North, -o.North)
	}
	return numbers + (z.Plates-1)*(numbers+error)
}

// each calls with all corrections along a direction that are anchored and near, and with the error of each overlap.
func each(z api.Zone, direction int, with func(corrections, errors []int)) {
	anchors, far := slowAnchors(z, direction), near(z)
	corrections, errors := make([]int, z.Plates), make([]int, len(z.Overlaps))
	var choose func(plate int)
	choose = func(plate int) {
		if plate == z.Plates {
			for n, o := range z.Overlaps {
				said, _ := along(direction, o, api.Fix{})
				errors[n] = said - corrections[o.Second] + corrections[o.First]
				errors[n] = max(errors[n], -errors[n])
			}
			with(corrections, errors)
			return
		}
		lo, hi := -far, far
		if n, ok := anchors[plate]; ok {
			lo, hi = n, n
		}
		for n := lo; n <= hi; n++ {
			corrections[plate] = n
			choose(plate + 1)
		}
	}
	choose(0)
}

// slowBests returns the greatest error of the best corrections, for each set of overlaps alone.
func slowBests(z api.Zone) []int {
	bests := make([]int, 1<<len(z.Overlaps))
	for direction := range 2 {
		least := make([]int, len(bests))
		for set := range least {
			least[set] = -1
		}
		each(z, direction, func(_, errors []int) {
			for set := range least {
				size := 0
				for n, error := range errors {
					if has(set, n) {
						size = max(size, error)
					}
				}
				if least[set] < 0 || size < least[set] {
					least[set] = size
				}
			}
		})
		for set, size := range least {
			bests[set] = max(bests[set], size)
		}
	}
	return bests
}

// slowRanges returns between which corrections each plate has some in all best ones that are anchored.
func slowRanges(z api.Zone, best int) []both {
	ranges := make([]both, z.Plates)
	for direction := range 2 {
		found := false
		each(z, direction, func(corrections, errors []int) {
			for _, error := range errors {
				if error > best {
					return
				}
			}
			for plate, n := range corrections {
				s := &ranges[plate][direction]
				if !found {
					*s = only(n)
				}
				*s = span(min(s.Lo, n), max(s.Hi, n))
			}
			found = true
		})
	}
	return ranges
}

// slowSet returns the smallest set of n overlaps that is as asked, with the least number.
func slowSet(n int, asked func(set int) bool) int {
	best := -1
	for set := range 1 << n {
		if asked(set) && (best < 0 || size(set) < size(best)) {
			best = set
		}
	}
	return best
}

// slowSets tells what follows of what is the best of each set of overlaps alone.
func slowSets(z api.Zone, bests []int, mosts []int) told {
	var x told
	all := len(bests) - 1
	x.best = bests[all]
	x.proof = slowSet(len(z.Overlaps), func(set int) bool { return bests[set] == x.best })
	for n := range z.Overlaps {
		x.costs = append(x.costs, bests[all&^(1<<n)])
	}
	for _, most := range mosts {
		x.without = append(x.without, slowSet(len(z.Overlaps), func(set int) bool { return bests[all&^set] <= most }))
	}
	return x
}

// withRanges tells what follows of the ranges of the best corrections, too.
func (x told) withRanges(ranges []both) told {
	x.ranges = ranges
	for plate, s := range ranges {
		x.adjust = append(x.adjust, at(plate, s[0].Lo, s[1].Lo))
		if s[0].Lo == s[0].Hi && s[1].Lo == s[1].Hi {
			x.rigid |= 1 << plate
		}
	}
	return x
}

// small returns a zone that is small enough for the slow way.
func small(r *rand.Rand) api.Zone {
	for {
		z := anyZone(r, 4, 6, pick(r, 1, 3))
		if z.Plates-len(z.Fixed) < 4 || near(z) <= 9 {
			return z
		}
	}
}

// P5.2 to P5.8: all that is told is what all corrections tell, and both ends of each range are reached.
func TestAgainstAllCorrections(t *testing.T) {
	r := random()
	var bests, proofs [8]int
	rounded, loose := 0, 0
	for i := range 2500 {
		z := small(r)
		slow := slowBests(z)
		mosts := []int{0, 1, 2, 3}
		want := slowSets(z, slow, mosts).withRanges(slowRanges(z, slow[len(slow)-1]))
		if got := tellAll(t, z, mosts...); !reflect.DeepEqual(got, want) {
			t.Fatalf("%d: %+v\n%+v, not\n%+v", i, z, got, want)
		}
		bests[min(want.best, 7)]++
		proofs[size(want.proof)]++
		if want.rigid != 1<<z.Plates-1 {
			loose++
		}
		if want.without[0] != 0 && want.without[1] != want.without[0] {
			rounded++
		}
	}
	if bests[0] < 300 || bests[1] < 100 || bests[2] < 50 || bests[3] < 30 || proofs[1] < 30 || proofs[2] < 100 || proofs[3] < 30 || loose < 200 || rounded < 100 {
		t.Error("too few zones of a kind:", bests, proofs, loose, rounded)
	}
}
