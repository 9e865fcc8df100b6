package turn_test

import (
	"math/rand/v2"
	"reflect"
	"slices"
	"testing"

	"zoneworks/api"
)

// Slow ways, by which every pile is told, too.

// sum is what truths have in common in which the same plates have a day that is said of them: between which days each
// plate has some.
type sum struct {
	said int
	days []api.Span
}

// smallPile returns a pile of at most 4 plates, in which all numbers are near to 0, or to MaxDay on either side of it; near
// is how near all days must be that are at an end of what can be: as near as a number that is said, and those of the gaps
// over which it tells of all other plates.
func smallPile(r *rand.Rand) (p api.TurnPile, near int) {
	plates := pick(r, 0, 4)
	said, by := 6, 4
	if plates == 4 {
		said, by = 3, 2
	}
	for range plates {
		s := within(r, 0, said, 2)
		if r.IntN(6) == 0 {
			s = span(api.MaxDay-s.Hi, api.MaxDay-s.Lo)
		} else if r.IntN(9) == 0 {
			s.Hi = api.MaxDay - s.Hi
		}
		p.Said = append(p.Said, s)
	}
	if plates < 2 {
		return p, said
	}
	for range pick(r, 0, 4) {
		a, b := anyTwo(r, plates)
		s := within(r, -by, by, 3)
		switch r.IntN(12) {
		case 0:
			s = span(api.MaxDay-by, api.MaxDay+min(0, s.Lo))
		case 1:
			s = span(max(0, s.Hi)-api.MaxDay, by-api.MaxDay)
		case 2:
			s.Hi = api.MaxDay
		}
		p.Gaps = append(p.Gaps, api.TurnGap{First: a, Second: b, By: s})
	}
	for range pick(r, 0, 3) {
		a, b := anyTwo(r, plates)
		p.Hands = append(p.Hands, hand(a, b, r.IntN(2) == 0))
	}
	return p, said + (plates-1)*by
}

// slowDays goes through all days of all plates that are near to 0 or MaxDay.
func slowDays(p api.TurnPile, near int) []sum {
	sums := map[int]*sum{}
	days := make([]int, len(p.Said))
	var put func(plate int)
	put = func(plate int) {
		if plate == len(days) {
			take(sums, p, days)
			return
		}
		for n := range near + 1 {
			for _, day := range []int{n, api.MaxDay - n} {
				days[plate] = day
				if areGaps(p, days[:plate+1]) {
					put(plate + 1)
				}
			}
		}
	}
	put(0)
	var list []sum
	for _, s := range sums {
		list = append(list, *s)
	}
	return list
}

// take adds days to what is known of all truths.
func take(sums map[int]*sum, p api.TurnPile, days []int) {
	said := 0
	for plate, day := range days {
		if holdsDay(p.Said[plate], day) {
			said |= 1 << plate
		}
	}
	if sums[said] == nil {
		sums[said] = &sum{said: said}
		for _, day := range days {
			sums[said].days = append(sums[said].days, only(day))
		}
	}
	for plate, day := range days {
		s := &sums[said].days[plate]
		*s = span(min(s.Lo, day), max(s.Hi, day))
	}
}

// areGaps returns whether all gaps are right between the first plates, of which the days are known.
func areGaps(p api.TurnPile, days []int) bool {
	for _, g := range p.Gaps {
		if max(g.First, g.Second) < len(days) && !holdsDay(g.By, days[g.Second]-days[g.First]) {
			return false
		}
	}
	return true
}

// slowOvers returns all sets of plates that can have been turned over.
func slowOvers(p api.TurnPile) []int {
	var all []int
overs:
	for over := range 1 << len(p.Said) {
		for _, h := range p.Hands {
			if (has(over, h.First) == has(over, h.Second)) != h.Same {
				continue overs
			}
		}
		all = append(all, over)
	}
	return all
}

// tellSlowly tells what can be of a plate in truths in which others are right, and whether there are any.
func tellSlowly(sums []sum, overs []int, right, plate int) (of, bool) {
	var x of
	some, said, notOver, over := false, false, false, false
	for _, s := range sums {
		for _, o := range overs {
			if !isIn(right, s.said&^o) {
				continue
			}
			if !some {
				x.days = s.days[plate]
			}
			some = true
			x.days = span(min(x.days.Lo, s.days[plate].Lo), max(x.days.Hi, s.days[plate].Hi))
			said = said || has(s.said, plate)
			over, notOver = over || has(o, plate), notOver || !has(o, plate)
		}
	}
	if !some {
		return of{}, false
	}
	if !said {
		x.why |= api.TurnDay
	}
	if !notOver {
		x.why |= api.TurnOver
		x.hand = api.TurnAlways
	} else if over {
		x.hand = api.TurnPerhaps
	}
	return x, true
}

// slowly returns what tellAll has to, of what can be of each plate if others are right.
func slowly(plates int, tell func(right, plate int) (of, bool), can func(right int) bool) told {
	var x told
	if !can(0) {
		x.e = api.ErrClash
	}
	for right := range 1 << plates {
		var list []of
		for plate := range plates {
			y, _ := tell(right, plate)
			list = append(list, y)
		}
		x.can, x.of = append(x.can, can(right)), append(x.of, list)
	}
	for range plates {
		x.proofs = append(x.proofs, proof{})
	}
	if x.e == api.OK {
		x.gatherSlowly(plates)
	}
	return x
}

// gatherSlowly tells what follows of which plates can be right.
func (x *told) gatherSlowly(plates int) {
	everything := 1<<plates - 1
	for plate := range plates {
		found := proof{}
		for others, can := range x.can {
			if can && !has(others, plate) && !x.can[others|1<<plate] && (!found.is || size(others) < size(found.others)) {
				found = proof{others, true}
			}
		}
		x.proofs[plate] = found
	}
	var fewest []int
	for wrong := range x.can {
		if !x.can[everything&^wrong] {
			continue
		}
		if len(fewest) > 0 && size(wrong) < size(fewest[0]) {
			fewest = nil
		}
		if len(fewest) == 0 || size(wrong) == size(fewest[0]) {
			fewest = append(fewest, wrong)
		}
	}
	x.wrong, x.all = fewest[0], everything
	for _, wrong := range fewest {
		x.all, x.some = x.all&wrong, x.some|wrong
	}
}

// tally is how many piles, and what was told of them, there are of each kind.
type tally struct {
	can, refused, clash, none, many, open int
	hands, whys                           [4]int
	proofs, wrongs                        [9]int
}

// take adds what is told of a pile.
func (n *tally) take(x told) {
	if x.e != api.OK {
		n.clash++
		return
	}
	for right, can := range x.can {
		if !can {
			n.refused++
			continue
		}
		n.can++
		for m, k := range counts(x.of[right], func(y of) int { return y.hand }) {
			n.hands[m] += k
		}
		for m, k := range counts(x.of[right], func(y of) int { return y.why }) {
			n.whys[m] += k
		}
	}
	for _, p := range x.proofs {
		if p.is {
			n.proofs[size(p.others)]++
		} else {
			n.none++
		}
	}
	n.wrongs[size(x.wrong)]++
	if x.all != x.some {
		n.many++
	}
	if x.all != 0 && x.all != x.some {
		n.open++
	}
}

// isEnough returns whether there are enough of each kind. No proof needs two plates: a way round on which a day would be less
// than itself comes by the zero once, from what is said of one plate to what is said of another one; and sides clash two by two.
func (n *tally) isEnough(least int) bool {
	return isMany(least, n.can, n.refused, n.clash, n.none, n.many, n.open, n.proofs[0], n.proofs[1]) && isMany(least, n.hands[:3]...) && isMany(least, n.whys[:]...) && isMany(least, n.wrongs[:3]...)
}

// P9.1 to P9.7: all that is told is what all days and all sets of plates that were turned over tell.
func TestAgainstAllTruths(t *testing.T) {
	r := random()
	var n tally
	early, late := 0, 0
	for i := range 2500 {
		p, near := smallPile(r)
		sums, overs := slowDays(p, near), slowOvers(p)
		want := slowly(len(p.Said), func(right, plate int) (of, bool) { return tellSlowly(sums, overs, right, plate) }, func(right int) bool {
			return slices.ContainsFunc(sums, func(s sum) bool {
				return slices.ContainsFunc(overs, func(over int) bool { return isIn(right, s.said&^over) })
			})
		})
		got := tellAll(t, p)
		if !reflect.DeepEqual(got, want) {
			t.Fatalf("%d: %+v\n%+v, not\n%+v", i, p, got, want)
		}
		n.take(want)
		for _, list := range want.of {
			for _, x := range list {
				if x.days.Lo == 0 && 0 < x.days.Hi && x.days.Hi < 99 {
					early++
				}
				if x.days.Hi == api.MaxDay && x.days.Lo > 99 && x.days.Lo < api.MaxDay {
					late++
				}
			}
		}
	}
	if !n.isEnough(50) || !isMany(50, early, late) {
		t.Errorf("too few piles of a kind: %+v %d %d", n, early, late)
	}
}

// narrowed returns the days of all plates if some are right, after each gap has narrowed them until nothing changes; and
// whether there are any. What tells of a plate's days comes to it over each other plate at most once.
func narrowed(p api.TurnPile, right int) ([]api.Span, bool) {
	days := make([]api.Span, len(p.Said))
	for plate, said := range p.Said {
		days[plate] = span(0, api.MaxDay)
		if has(right, plate) {
			days[plate] = said
		}
	}
	for range len(days) + 2 {
		before := slices.Clone(days)
		for _, g := range p.Gaps {
			a, b := &days[g.First], &days[g.Second]
			*b = span(max(b.Lo, a.Lo+g.By.Lo), min(b.Hi, a.Hi+g.By.Hi))
			*a = span(max(a.Lo, b.Lo-g.By.Hi), min(a.Hi, b.Hi-g.By.Lo))
		}
		if slices.ContainsFunc(days, func(s api.Span) bool { return s.Lo > s.Hi }) {
			return nil, false
		}
		if slices.Equal(days, before) {
			return days, true
		}
	}
	return nil, false
}

// P9.1 to P9.7: piles of all sizes, by days that are narrowed plate by plate, and by all sets of plates that were turned over.
func TestAgainstNarrowing(t *testing.T) {
	r := random()
	var n tally
	for i := range 400 {
		p := anyPile(r, pick(r, 1, 8))
		overs := slowOvers(p)
		can := func(right int) bool {
			_, is := narrowed(p, right)
			return is && slices.ContainsFunc(overs, func(over int) bool { return right&over == 0 })
		}
		tell := func(right, plate int) (of, bool) {
			days, is := narrowed(p, right)
			if !is {
				return of{}, false
			}
			_, isSaid := narrowed(p, right|1<<plate)
			said := right
			if isSaid {
				said |= 1 << plate
			}
			return tellSlowly([]sum{{said, days}}, overs, right, plate)
		}
		want := slowly(len(p.Said), tell, can)
		if got := tellAll(t, p); !reflect.DeepEqual(got, want) {
			t.Fatalf("%d: %+v\n%+v, not\n%+v", i, p, got, want)
		}
		n.take(want)
	}
	if !n.isEnough(20) {
		t.Errorf("too few piles of a kind: %+v", n)
	}
}
