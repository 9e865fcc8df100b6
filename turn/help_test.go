package turn_test

import (
	"math/bits"
	"math/rand/v2"
	"slices"
	"testing"

	"zoneworks/api"
	"zoneworks/turn"
)

func span(lo, hi int) api.Span { return api.Span{Lo: lo, Hi: hi} }

// only is the span of one number.
func only(n int) api.Span { return span(n, n) }

func gap(first, second, lo, hi int) api.TurnGap {
	return api.TurnGap{First: first, Second: second, By: span(lo, hi)}
}

func hand(first, second int, same bool) api.TurnHand {
	return api.TurnHand{First: first, Second: second, Same: same}
}

// example is the pile P of the chapter, with changes.
func example(changes ...func(p *api.TurnPile)) api.TurnPile {
	p := api.TurnPile{
		Said:  []api.Span{only(100), span(130, 135), only(160), span(90, 95)},
		Gaps:  []api.TurnGap{gap(0, 1, 30, 40), gap(1, 2, 20, 30), gap(0, 3, 5, 10)},
		Hands: []api.TurnHand{hand(0, 1, true), hand(1, 2, false), hand(2, 3, false)},
	}
	for _, change := range changes {
		change(&p)
	}
	return p
}

// dated is a pile of plates of which one day each is said, and gaps.
func dated(days []int, gaps ...api.TurnGap) api.TurnPile {
	p := api.TurnPile{Gaps: gaps}
	for _, day := range days {
		p.Said = append(p.Said, only(day))
	}
	return p
}

// laid is a pile of so many plates, of which any day is said, and hands.
func laid(plates int, hands ...api.TurnHand) api.TurnPile {
	p := api.TurnPile{Hands: hands}
	for range plates {
		p.Said = append(p.Said, span(0, api.MaxDay))
	}
	return p
}

// withHands returns a pile with other hands.
func withHands(p api.TurnPile, hands ...api.TurnHand) api.TurnPile {
	p.Hands = hands
	return p
}

// set returns plates as a set.
func set(plates ...int) int {
	all := 0
	for _, plate := range plates {
		all |= 1 << plate
	}
	return all
}

// copyOf returns a pile that shares no memory with another one.
func copyOf(p api.TurnPile) api.TurnPile {
	return api.TurnPile{Said: append([]api.Span{}, p.Said...), Gaps: append([]api.TurnGap{}, p.Gaps...), Hands: append([]api.TurnHand{}, p.Hands...)}
}

// of is what is told of a plate if some plates are right.
type of struct {
	days      api.Span
	hand, why int
}

// proof is what False tells: a set, or that there is none.
type proof struct {
	others int
	is     bool
}

// told is all that the package tells of a pile: what plates can be right by their sets, and what is told of a plate then by
// its number, too.
type told struct {
	can              []bool
	of               [][]of
	proofs           []proof
	wrong, all, some int
	// e is the error of all functions that need a truth.
	e api.Errno
}

// tellAll calls all functions.
func tellAll(t *testing.T, p api.TurnPile) told {
	t.Helper()
	var x told
	x.wrong, x.e = turn.Wrong(p)
	var e api.Errno
	x.all, x.some, e = turn.Surely(p)
	same(t, "the error of Surely", e, x.e)
	for right := range 1 << len(p.Said) {
		is, e := turn.Can(p, right)
		same(t, "the error of Can", e, x.e)
		if x.e != api.OK {
			same(t, "Can, without a truth", is, false)
		}
		var list []of
		for plate := range p.Said {
			list = append(list, tell(t, p, right, plate, is, x.e))
		}
		x.can, x.of = append(x.can, is), append(x.of, list)
	}
	for plate := range p.Said {
		others, e := turn.False(p, plate)
		if e != api.ErrNone {
			same(t, "the error of False", e, x.e)
		}
		if e != api.OK {
			same(t, "False, with an error", others, 0)
		}
		x.proofs = append(x.proofs, proof{others, e == api.OK})
	}
	return x
}

// tell calls all functions that tell of a plate if others can be right, or cannot, or there is no truth.
func tell(t *testing.T, p api.TurnPile, right, plate int, can bool, clash api.Errno) of {
	t.Helper()
	want := clash
	if want == api.OK && !can {
		want = api.ErrRefuse
	}
	days, e := turn.Days(p, right, plate)
	same(t, "the error of Days", e, want)
	hand, e := turn.Hand(p, right, plate)
	same(t, "the error of Hand", e, want)
	why, e := turn.Why(p, right, plate)
	if want == api.OK && why == 0 {
		want = api.ErrNone
	}
	same(t, "the error of Why", e, want)
	return of{days, hand, why}
}

func has(set, n int) bool { return set&(1<<n) != 0 }

func size(set int) int { return bits.OnesCount(uint(set)) }

// isIn returns whether all of a set is in another one.
func isIn(some, all int) bool { return some&^all == 0 }

// holds returns whether a span contains all of another one.
func holds(all, some api.Span) bool { return all.Lo <= some.Lo && some.Hi <= all.Hi }

// holdsDay returns whether a day is in a span.
func holdsDay(s api.Span, day int) bool { return s.Lo <= day && day <= s.Hi }

// pick returns a number from lo to hi.
func pick(r *rand.Rand, lo, hi int) int { return lo + r.IntN(hi-lo+1) }

// random returns generators whose numbers are always the same.
func random() *rand.Rand { return rand.New(rand.NewPCG(9, 9)) }

// within returns a span of at most so many numbers more than one, all from lo to hi.
func within(r *rand.Rand, lo, hi, width int) api.Span {
	from := pick(r, lo, hi)
	return span(from, min(hi, from+pick(r, 0, width)))
}

// truth is the true day of each plate, and which plates were turned over.
type truth struct {
	days []int
	over int
}

// right returns the plates of a pile that truly are right.
func (w truth) right(p api.TurnPile) int {
	all := 0
	for plate, said := range p.Said {
		if holdsDay(said, w.days[plate]) && !has(w.over, plate) {
			all |= 1 << plate
		}
	}
	return all
}

// anyTruth returns what is true of so many plates, some of which are false.
func anyTruth(r *rand.Rand, plates int) truth {
	var w truth
	first := []int{0, 500, api.MaxDay - 60}[r.IntN(3)]
	for plate := range plates {
		w.days = append(w.days, first+pick(r, 0, 60))
		if r.IntN(4) == 0 {
			w.over |= 1 << plate
		}
	}
	return w
}

// around returns a span with a number in it, and none outside of lo to hi.
func around(r *rand.Rand, n, width, lo, hi int) api.Span {
	return span(max(lo, n-pick(r, 0, width)), min(hi, n+pick(r, 0, width)))
}

// pileOf returns a pile that tells what is true, but for what is said of some plates.
func pileOf(r *rand.Rand, w truth) api.TurnPile {
	var p api.TurnPile
	width := pick(r, 0, 5)
	for _, day := range w.days {
		if r.IntN(3) == 0 {
			day = min(api.MaxDay, max(0, day+pick(r, -20, 20)))
		}
		p.Said = append(p.Said, around(r, day, width, 0, api.MaxDay))
	}
	if len(p.Said) < 2 {
		return p
	}
	for range pick(r, 0, 12) {
		a, b := anyTwo(r, len(p.Said))
		p.Gaps = append(p.Gaps, api.TurnGap{First: a, Second: b, By: around(r, w.days[b]-w.days[a], 2*width, -api.MaxDay, api.MaxDay)})
	}
	for range pick(r, 0, 12) {
		a, b := anyTwo(r, len(p.Said))
		p.Hands = append(p.Hands, hand(a, b, has(w.over, a) == has(w.over, b)))
	}
	return p
}

// anyTwo returns two numbers that differ.
func anyTwo(r *rand.Rand, numbers int) (a, b int) {
	two := r.Perm(numbers)
	return two[0], two[1]
}

// anyPile returns a pile that tells more or less what is true, and can be without a truth.
func anyPile(r *rand.Rand, plates int) api.TurnPile {
	p := pileOf(r, anyTruth(r, plates))
	if r.IntN(2) == 0 {
		return p
	}
	if len(p.Gaps) > 0 && r.IntN(2) == 0 {
		g := &p.Gaps[r.IntN(len(p.Gaps))]
		by := pick(r, -9, 9)
		g.By = span(max(-api.MaxDay, min(g.By.Lo+by, api.MaxDay)), max(-api.MaxDay, min(g.By.Hi+by, api.MaxDay)))
	}
	if len(p.Hands) > 0 && r.IntN(3) == 0 {
		h := &p.Hands[r.IntN(len(p.Hands))]
		h.Same = !h.Same
	}
	return p
}

// counts returns how many of a list are each number.
func counts(list []of, number func(x of) int) [4]int {
	var n [4]int
	for _, x := range list {
		n[number(x)]++
	}
	return n
}

// isMany returns whether all numbers are at least so great.
func isMany(least int, numbers ...int) bool { return slices.Min(numbers) >= least }

// same fails unless both are the same.
func same[T comparable](t *testing.T, what string, got, want T) {
	t.Helper()
	if got != want {
		t.Errorf("%s: %v, not %v", what, got, want)
	}
}
