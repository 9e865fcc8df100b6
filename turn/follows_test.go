package turn_test

import (
	"math/rand/v2"
	"reflect"
	"testing"

	"zoneworks/api"
)

// P9.8, P2, P8: what is true is within what is told of plates that truly are right.
func TestTruthIsWithin(t *testing.T) {
	r := random()
	narrow, always, never, why, proofs, fewest, fewer := 0, 0, 0, 0, 0, 0, 0
	for range 300 {
		w := anyTruth(r, pick(r, 0, 8))
		p := pileOf(r, w)
		right := w.right(p)
		wrong := 1<<len(p.Said) - 1 - right
		x := tellAll(t, p)
		if x.e != api.OK || !x.can[right] || size(x.wrong) > size(wrong) {
			t.Fatal("what is true cannot be", p, w, x.e, x.wrong)
		}
		for part := range x.can {
			if !isIn(part, right) {
				continue
			}
			for plate, y := range x.of[part] {
				over, said := has(w.over, plate), holdsDay(p.Said[plate], w.days[plate])
				if !x.can[part] || !holdsDay(y.days, w.days[plate]) || over && y.hand == api.TurnNever || !over && y.hand == api.TurnAlways {
					t.Fatal("Can, Days, Hand", p, w, part, plate, y)
				}
				if said && y.why&api.TurnDay != 0 || !over && y.why&api.TurnOver != 0 {
					t.Fatal("Why", p, w, part, plate, y)
				}
				narrow, always, never, why = narrow+min(1, last-y.days.Hi+y.days.Lo), always+y.hand/2, never+(2-y.hand)/2, why+min(1, y.why)
			}
		}
		for plate, y := range x.proofs {
			if !y.is || !isIn(y.others, right) {
				continue
			}
			proofs++
			if !has(wrong, plate) {
				t.Fatal("False", p, w, plate, y)
			}
		}
		if size(x.wrong) < size(wrong) {
			fewer++
			continue
		}
		fewest++
		if !isIn(x.all, wrong) || !isIn(wrong, x.some) || x.wrong > wrong {
			t.Fatal("Wrong, Surely", p, w, x.wrong, x.all, x.some)
		}
	}
	if !isMany(60, narrow, always, never, why, proofs, fewest, fewer) {
		t.Error("too few piles of a kind:", narrow, always, never, why, proofs, fewest, fewer)
	}
}

// P9.8: a part of plates that can be right can be, and tells no more; of the fewest that prove something each one is needed.
func TestParts(t *testing.T) {
	r := random()
	parts, needed := 0, 0
	for range 200 {
		p := anyPile(r, pick(r, 1, 8))
		x := tellAll(t, p)
		for right, can := range x.can {
			for plate := range p.Said {
				part := right &^ (1 << plate)
				if !can || part == right {
					continue
				}
				parts++
				if !x.can[part] {
					t.Fatal("Can", p, right, part)
				}
				for n := range p.Said {
					isNoLess(t, p, p, x.of[part][n], x.of[right][n])
				}
			}
		}
		for plate, y := range x.proofs {
			if !y.is {
				continue
			}
			if has(y.others, plate) || !x.can[y.others] || x.can[y.others|1<<plate] || x.of[y.others][plate].why == 0 {
				t.Fatal("False", p, plate, y)
			}
			for n := range p.Said {
				if part := y.others &^ (1 << n); part != y.others {
					needed++
					same(t, "one fewer proves it", x.can[part|1<<plate], true)
				}
			}
		}
	}
	if !isMany(300, parts, needed) {
		t.Error("too few piles of a kind:", parts, needed)
	}
}

// isNoLess fails unless what is told of a plate is told no less exactly with more.
func isNoLess(t *testing.T, p, other api.TurnPile, x, more of) {
	t.Helper()
	if !holds(x.days, more.days) || x.hand != more.hand && x.hand != api.TurnPerhaps || !isIn(x.why, more.why) {
		t.Fatal("told less", p, other, x, more)
	}
}

// P9.8: no fewer plates are false than must be, and all others can be right then.
func TestNoFewer(t *testing.T) {
	r := random()
	for range 200 {
		p := anyPile(r, pick(r, 0, 8))
		x := tellAll(t, p)
		if x.e != api.OK {
			continue
		}
		everything, all, some := 1<<len(p.Said)-1, 1<<len(p.Said)-1, 0
		for wrong := range x.can {
			if !x.can[everything&^wrong] {
				continue
			}
			if size(wrong) < size(x.wrong) || size(wrong) == size(x.wrong) && wrong < x.wrong {
				t.Fatal("Wrong", p, x.wrong, wrong)
			}
			if size(wrong) == size(x.wrong) {
				all, some = all&wrong, some|wrong
			}
		}
		if !x.can[everything&^x.wrong] || x.all != all || x.some != some {
			t.Fatal("Wrong, Surely", p, x.wrong, x.all, x.some)
		}
	}
}

// narrower returns a part of a span.
func narrower(r *rand.Rand, s api.Span) api.Span {
	lo := pick(r, s.Lo, s.Hi)
	return span(lo, pick(r, lo, s.Hi))
}

// more returns a pile with a gap or a hand more, or a narrower span; and whether it has more.
func more(r *rand.Rand, p api.TurnPile) (api.TurnPile, bool) {
	p = copyOf(p)
	a, b := anyTwo(r, len(p.Said))
	switch r.IntN(4) {
	case 0:
		n := r.IntN(len(p.Said))
		p.Said[n] = narrower(r, p.Said[n])
		return p, true
	case 1:
		if len(p.Gaps) == 0 {
			return p, false
		}
		n := r.IntN(len(p.Gaps))
		p.Gaps[n].By = narrower(r, p.Gaps[n].By)
		return p, true
	case 2:
		lo := pick(r, -40, 40)
		p.Gaps = append(p.Gaps, gap(a, b, lo, lo+pick(r, 0, 40)))
		return p, len(p.Gaps) <= api.TurnGaps
	}
	p.Hands = append(p.Hands, hand(a, b, r.IntN(2) == 0))
	return p, len(p.Hands) <= api.TurnHands
}

// P9.9, P2: with a gap or a hand more, or a narrower span, no more can be right, and nothing is told less exactly.
func TestMore(t *testing.T) {
	r := random()
	clash, fewer, wrong, exact := 0, 0, 0, 0
	for range 1200 {
		p := anyPile(r, pick(r, 2, 6))
		other, is := more(r, p)
		if !is {
			continue
		}
		x, y := tellAll(t, p), tellAll(t, other)
		if y.e != api.OK {
			if x.e == api.OK {
				clash++
			}
			continue
		}
		if x.e != api.OK || size(y.wrong) < size(x.wrong) {
			t.Fatal("Wrong", p, other, x.wrong, y.wrong)
		}
		wrong += size(y.wrong) - size(x.wrong)
		for right, can := range y.can {
			if !can {
				if x.can[right] {
					fewer++
				}
				continue
			}
			if !x.can[right] {
				t.Fatal("Can", p, other, right)
			}
			for plate := range p.Said {
				isNoLess(t, p, other, x.of[right][plate], y.of[right][plate])
				if x.of[right][plate] != y.of[right][plate] {
					exact++
				}
			}
		}
	}
	if !isMany(50, clash, fewer, wrong, exact) {
		t.Error("too few piles of a kind:", clash, fewer, wrong, exact)
	}
}

// P9.9, P12: gaps and hands that are told the other way round, or in another order, or twice, change nothing.
func TestTurnedRound(t *testing.T) {
	r := random()
	for range 200 {
		p := anyPile(r, pick(r, 2, 7))
		other := copyOf(p)
		for n, g := range other.Gaps {
			if r.IntN(2) == 0 {
				other.Gaps[n] = gap(g.Second, g.First, -g.By.Hi, -g.By.Lo)
			}
		}
		for n, h := range other.Hands {
			if r.IntN(2) == 0 {
				other.Hands[n] = hand(h.Second, h.First, h.Same)
			}
		}
		r.Shuffle(len(other.Gaps), func(i, j int) { other.Gaps[i], other.Gaps[j] = other.Gaps[j], other.Gaps[i] })
		r.Shuffle(len(other.Hands), func(i, j int) { other.Hands[i], other.Hands[j] = other.Hands[j], other.Hands[i] })
		if n := len(other.Gaps); 0 < n && n < api.TurnGaps {
			other.Gaps = append(other.Gaps, other.Gaps[r.IntN(n)])
		}
		if n := len(other.Hands); 0 < n && n < api.TurnHands {
			other.Hands = append(other.Hands, other.Hands[r.IntN(n)])
		}
		if x, y := tellAll(t, p), tellAll(t, other); !reflect.DeepEqual(x, y) {
			t.Fatal(p, other, x, y)
		}
	}
}

// renumbered returns a set of plates that have other numbers.
func renumbered(set int, to []int) int {
	other := 0
	for n, now := range to {
		if has(set, n) {
			other |= 1 << now
		}
	}
	return other
}

// P9.9, P12: if plates are numbered otherwise, only their numbers change; of several sets that are as small another one may
// be the least number.
func TestNumbers(t *testing.T) {
	r := random()
	moved := 0
	for range 250 {
		p := anyPile(r, pick(r, 2, 7))
		other, to := copyOf(p), r.Perm(len(p.Said))
		for n, now := range to {
			other.Said[now] = p.Said[n]
		}
		for n, g := range p.Gaps {
			other.Gaps[n] = api.TurnGap{First: to[g.First], Second: to[g.Second], By: g.By}
		}
		for n, h := range p.Hands {
			other.Hands[n] = hand(to[h.First], to[h.Second], h.Same)
		}
		x, y := tellAll(t, p), tellAll(t, other)
		same(t, "errors", y.e, x.e)
		same(t, "Wrong", size(y.wrong), size(x.wrong))
		same(t, "Surely, all", y.all, renumbered(x.all, to))
		same(t, "Surely, some", y.some, renumbered(x.some, to))
		if y.wrong != renumbered(x.wrong, to) {
			moved++
		}
		for right, can := range x.can {
			now := renumbered(right, to)
			same(t, "Can", y.can[now], can)
			for plate, z := range x.of[right] {
				same(t, "Days, Hand, Why", y.of[now][to[plate]], z)
			}
		}
		for plate, z := range x.proofs {
			got := y.proofs[to[plate]]
			same(t, "False", got.is, z.is)
			same(t, "False", size(got.others), size(z.others))
		}
	}
	if moved < 20 {
		t.Error("too few piles in another order:", moved)
	}
}

// Terms: days and hands are of no matter to one another, and a plate that nothing tells of makes no difference to others.
func TestApart(t *testing.T) {
	r := random()
	for range 150 {
		p := anyPile(r, pick(r, 1, 6))
		days, hands, other := copyOf(p), copyOf(p), copyOf(p)
		days.Hands, hands.Gaps = nil, nil
		other.Said = append(other.Said, within(r, 0, last, 9))
		x, y, z, m := tellAll(t, p), tellAll(t, days), tellAll(t, hands), tellAll(t, other)
		same(t, "a plate more", m.e, x.e)
		same(t, "a plate more, Wrong", m.wrong, x.wrong)
		same(t, "a plate more, Surely", [2]int{m.all, m.some}, [2]int{x.all, x.some})
		for right, can := range x.can {
			same(t, "Can", can, y.can[right] && z.can[right])
			same(t, "a plate more, Can", m.can[right], can)
			same(t, "a plate more that is right, Can", m.can[right|1<<len(p.Said)], can)
			for plate, told := range x.of[right] {
				same(t, "a plate more", m.of[right|1<<len(p.Said)][plate], told)
				if can && (told.days != y.of[right][plate].days || told.hand != z.of[right][plate].hand) {
					t.Fatal(p, right, plate, told)
				}
			}
		}
	}
}
