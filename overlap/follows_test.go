package overlap_test

import (
	"math/rand/v2"
	"reflect"
	"slices"
	"testing"

	"zoneworks/api"
	"zoneworks/overlap"
)

// measured returns a zone whose overlaps are measured with errors of at most a size, and the true corrections.
func measured(r *rand.Rand, errors int) (api.Zone, []api.Fix) {
	z := zone(pick(r, 1, 8))
	reach := []int{20, 1<<29 - 9}[r.IntN(2)]
	var truth []api.Fix
	for plate := range z.Plates {
		truth = append(truth, at(plate, pick(r, -reach, reach), pick(r, -reach, reach)))
	}
	for range pick(r, 0, 12) {
		a, b := truth[r.IntN(z.Plates)], truth[r.IntN(z.Plates)]
		if a.Plate != b.Plate {
			z.Overlaps = append(z.Overlaps, over(a.Plate, b.Plate, b.East-a.East+pick(r, -errors, errors), b.North-a.North+pick(r, -errors, errors)))
		}
	}
	for _, plate := range r.Perm(z.Plates)[:pick(r, 0, min(2, z.Plates))] {
		z.Fixed = append(z.Fixed, truth[plate])
	}
	return z, truth
}

// P5.9, P4: corrections that are true have errors of at most a size, so Best is at most that; 0 if there are none.
func TestTruthIsNoWorse(t *testing.T) {
	r := random()
	var bests [10]int
	for range 900 {
		errors := pick(r, 0, 9)
		z, truth := measured(r, errors)
		best := bestOf(z)
		if best > errors || best > greatestOf(z, truth) || greatestOf(z, truth) > errors {
			t.Fatal(z, truth, errors, best)
		}
		bests[best]++
	}
	if bests[0] < 50 || bests[2] < 50 || bests[6] < 10 {
		t.Error("too few zones of a kind:", bests)
	}
}

// P5.9: the corrections of Adjust have just the greatest error of Best, and no others that are allowed have a smaller one.
func TestNoneSmaller(t *testing.T) {
	r := random()
	near := 0
	for range 900 {
		z := large(r)
		best := bestOf(z)
		l, _ := overlap.Adjust(z)
		same(t, "the greatest error of Adjust", greatestOf(z, l), best)
		for _, f := range z.Fixed {
			same(t, "a Fixed plate", l[f.Plate], f)
		}
		for range 30 {
			other := slices.Clone(l)
			for plate := range other {
				other[plate].East += pick(r, -2, 3)
				other[plate].North += pick(r, -2, 3)
			}
			for _, f := range z.Fixed {
				other[f.Plate] = f
			}
			size := greatestOf(z, other)
			if size < best {
				t.Fatal(z, l, other, size, best)
			}
			if size == best {
				near++
			}
		}
	}
	if near < 300 {
		t.Error("too few that are as good:", near)
	}
}

// pinned returns a zone of which all plates that have the same in all anchored corrections are Fixed there, and some plate
// that is not, or -1 if all are.
func pinned(r *rand.Rand, z api.Zone) (api.Zone, int) {
	other, free := -1, 0
	east, north := slowAnchors(z, 0), slowAnchors(z, 1)
	z.Fixed = nil
	for plate := range z.Plates {
		if _, ok := east[plate]; ok {
			z.Fixed = append(z.Fixed, at(plate, east[plate], north[plate]))
		} else if free++; r.IntN(free) == 0 {
			other = plate
		}
	}
	return z, other
}

// P5.4: if a plate is Fixed within its range, Best is the same; if it is Fixed beyond it, Best is greater.
func TestRangeIsReached(t *testing.T) {
	const reach = 1 << 30
	r := random()
	within, beyond := 0, 0
	for range 900 {
		z, plate := pinned(r, large(r))
		if plate < 0 {
			continue
		}
		best := bestOf(z)
		east, north, _ := overlap.Range(z, plate)
		if min(east.Lo, north.Lo) <= -reach || max(east.Hi, north.Hi) >= reach {
			continue
		}
		with := func(east, north int) int {
			return bestOf(fixed(z, append(slices.Clone(z.Fixed), at(plate, east, north))...))
		}
		for _, f := range [][2]int{{east.Lo, north.Hi}, {east.Hi, north.Lo}, {pick(r, east.Lo, east.Hi), pick(r, north.Lo, north.Hi)}} {
			within++
			same(t, "Best within a range", with(f[0], f[1]), best)
		}
		for _, f := range [][2]int{{east.Lo - 1, north.Lo}, {east.Hi + 1, north.Lo}, {east.Lo, north.Lo - 1}, {east.Lo, north.Hi + 1}} {
			beyond++
			if with(f[0], f[1]) <= best {
				t.Fatal(z, plate, f, best)
			}
		}
	}
	if within < 600 || beyond < 600 {
		t.Error("too few:", within, beyond)
	}
}

// P5.9, P4: the overlaps of the proof alone have the same Best, and each one of them is needed.
func TestProofIsNeeded(t *testing.T) {
	r := random()
	for range 600 {
		z := large(r)
		best := bestOf(z)
		proof, _ := overlap.Proof(z)
		same(t, "Best of the proof alone", bestOf(alone(z, proof)), best)
		for n := range z.Overlaps {
			if has(proof, n) && bestOf(alone(z, proof&^(1<<n))) >= best {
				t.Fatal(z, proof, n, best)
			}
		}
		if proof>>len(z.Overlaps) != 0 {
			t.Fatal(z, proof)
		}
	}
}

// P5.7, P5.8: costs and what is left out are what Best tells of zones without these overlaps.
func TestLeftOut(t *testing.T) {
	r := random()
	for range 300 {
		z := large(r)
		all := 1<<len(z.Overlaps) - 1
		costs, _ := overlap.Costs(z)
		same(t, "how many", len(costs), len(z.Overlaps))
		for n, cost := range costs {
			same(t, "a cost", cost, bestOf(alone(z, all&^(1<<n))))
		}
		most := pick(r, 0, bestOf(z))
		left, _ := overlap.Without(z, most)
		if bestOf(alone(z, all&^left)) > most || left&^all != 0 {
			t.Fatal(z, most, left)
		}
		for n := range z.Overlaps {
			if has(left, n) && bestOf(alone(z, all&^left|1<<n)) <= most {
				t.Fatal(z, most, left, n)
			}
		}
	}
}

// P5.10: with an overlap, or a Fixed plate, more Best is no less; without an overlap it is no greater.
func TestMore(t *testing.T) {
	r := random()
	worse := 0
	for range 900 {
		z := large(r)
		best := bestOf(z)
		costs, _ := overlap.Costs(z)
		for _, cost := range costs {
			if cost > best {
				t.Fatal(z, costs, best)
			}
		}
		more := copyOf(z)
		if a, b := r.IntN(z.Plates), r.IntN(z.Plates); a != b && len(z.Overlaps) < 12 {
			more.Overlaps = append(more.Overlaps, over(a, b, pick(r, -50, 50), pick(r, -50, 50)))
		}
		if plate := r.IntN(z.Plates); !slices.ContainsFunc(z.Fixed, func(f api.Fix) bool { return f.Plate == plate }) && r.IntN(2) == 0 {
			more.Fixed = append(more.Fixed, at(plate, pick(r, -50, 50), pick(r, -50, 50)))
		}
		if bestOf(more) < best {
			t.Fatal(z, more, best, bestOf(more))
		}
		if bestOf(more) > best {
			worse++
		}
	}
	if worse < 100 {
		t.Error("too few are worse:", worse)
	}
}

// placesNow returns the set of the overlaps of a set by where they are now.
func placesNow(set int, now []int) int {
	other := 0
	for i, n := range now {
		if has(set, i) {
			other |= 1 << n
		}
	}
	return other
}

// P5.10, P12: the order of overlaps makes no difference but to their numbers, that of Fixed plates none at all. Of several
// sets that are as small, another one may be the first.
func TestOrder(t *testing.T) {
	r := random()
	for range 600 {
		z := large(r)
		now := r.Perm(len(z.Overlaps))
		other := copyOf(z)
		for i, o := range z.Overlaps {
			other.Overlaps[now[i]] = o
		}
		r.Shuffle(len(z.Fixed), func(i, j int) { other.Fixed[i], other.Fixed[j] = other.Fixed[j], other.Fixed[i] })
		most := pick(r, 0, bestOf(z))
		a, b := tellAll(t, z, most), tellAll(t, other, most)
		for i, cost := range a.costs {
			same(t, "Costs", b.costs[now[i]], cost)
		}
		same(t, "Proof", size(b.proof), size(a.proof))
		same(t, "Without", size(b.without[0]), size(a.without[0]))
		if proof := placesNow(a.proof, now); b.proof > proof || bestOf(alone(other, proof)) != a.best {
			t.Fatal("Proof", z, other, a.proof, b.proof)
		}
		if left := placesNow(a.without[0], now); b.without[0] > left {
			t.Fatal("Without", z, other, a.without, b.without)
		}
		a.proof, a.costs, a.without = b.proof, b.costs, b.without
		if !reflect.DeepEqual(a, b) {
			t.Fatal(z, other, a, b)
		}
		size, n, _ := overlap.Greatest(z, a.adjust)
		again, m, _ := overlap.Greatest(other, a.adjust)
		same(t, "Greatest", again, size)
		if len(now) > 0 && m > now[n] {
			t.Fatal("Greatest", z, other, n, m)
		}
	}
}

// P5.10: an overlap that is told from the other plate, with its signs turned round, makes no difference.
func TestToldFromTheOther(t *testing.T) {
	r := random()
	for range 600 {
		z := large(r)
		other := copyOf(z)
		for i, o := range z.Overlaps {
			if r.IntN(2) == 0 {
				other.Overlaps[i] = over(o.Second, o.First, -o.East, -o.North)
			}
		}
		most := pick(r, 0, bestOf(z))
		a, b := tellAll(t, z, most), tellAll(t, other, most)
		if !reflect.DeepEqual(a, b) {
			t.Fatal(z, other, a, b)
		}
		size, n, _ := overlap.Greatest(z, a.adjust)
		again, m, _ := overlap.Greatest(other, a.adjust)
		same(t, "Greatest", [2]int{again, m}, [2]int{size, n})
	}
}

// P5.10: if all that is Fixed is moved by as much, Best does not change; nor do proofs, costs, and what is left out; all
// plates that are linked with what is Fixed are moved by it.
func TestMoved(t *testing.T) {
	r := random()
	moved := 0
	for range 600 {
		z := large(r)
		by := [2]int{pick(r, -999, 999), pick(r, -999, 999)}
		other := copyOf(z)
		fits := true
		for i, f := range z.Fixed {
			other.Fixed[i] = at(f.Plate, f.East+by[0], f.North+by[1])
			fits = fits && max(f.East+by[0], -f.East-by[0], f.North+by[1], -f.North-by[1]) <= 1<<30
		}
		if !fits {
			continue
		}
		most := pick(r, 0, bestOf(z))
		a, b := tellAll(t, z, most), tellAll(t, other, most)
		withFixed := map[int]bool{}
		for _, f := range z.Fixed {
			withFixed[f.Plate] = true
		}
		for range z.Plates {
			for _, o := range z.Overlaps {
				if withFixed[o.First] || withFixed[o.Second] {
					withFixed[o.First], withFixed[o.Second] = true, true
				}
			}
		}
		for plate := range withFixed {
			moved++
			a.adjust[plate].East += by[0]
			a.adjust[plate].North += by[1]
			for i := range by {
				s := &a.ranges[plate][i]
				*s = span(s.Lo+by[i], s.Hi+by[i])
			}
		}
		if !reflect.DeepEqual(a, b) {
			t.Fatal(z, other, a, b)
		}
	}
	if moved < 600 {
		t.Error("too few are moved:", moved)
	}
}

// P5.10: if East and North change places, so do they in all results.
func TestDirectionsChangePlaces(t *testing.T) {
	r := random()
	for range 600 {
		z := large(r)
		other := copyOf(z)
		for i, o := range z.Overlaps {
			other.Overlaps[i] = over(o.First, o.Second, o.North, o.East)
		}
		for i, f := range z.Fixed {
			other.Fixed[i] = at(f.Plate, f.North, f.East)
		}
		most := pick(r, 0, bestOf(z))
		a, b := tellAll(t, z, most), tellAll(t, other, most)
		size, n, _ := overlap.Greatest(z, a.adjust)
		again, m, _ := overlap.Greatest(other, b.adjust)
		same(t, "Greatest", [2]int{again, m}, [2]int{size, n})
		for plate := range z.Plates {
			b.ranges[plate] = both{b.ranges[plate][1], b.ranges[plate][0]}
			b.adjust[plate] = at(plate, b.adjust[plate].North, b.adjust[plate].East)
		}
		if !reflect.DeepEqual(a, b) {
			t.Fatal(z, other, a, b)
		}
	}
}
