package turn_test

import (
	"testing"

	"zoneworks/api"
	"zoneworks/turn"
)

const last = api.MaxDay

// clashes are piles that have no truth.
func clashes() map[string]api.TurnPile {
	example := example(func(p *api.TurnPile) { p.Hands = append(p.Hands, hand(3, 0, false)) })
	return map[string]api.TurnPile{
		"two gaps":                       dated([]int{1, 2}, gap(0, 1, 5, 5), gap(1, 0, 5, 5)),
		"two gaps, one too many":         dated([]int{1, 2}, gap(0, 1, 0, 5), gap(0, 1, 6, 9)),
		"two gaps, turned round":         dated([]int{1, 2}, gap(0, 1, 0, 5), gap(1, 0, -9, -6)),
		"gaps in a ring":                 dated([]int{1, 2, 3}, gap(0, 1, 1, 2), gap(1, 2, 1, 2), gap(2, 0, 0, 9)),
		"gaps beyond all days":           dated([]int{1, 2, 3}, gap(0, 1, 40000, last), gap(1, 2, 25537, last)),
		"gaps before all days":           dated([]int{1, 2, 3}, gap(0, 1, -last, -40000), gap(1, 2, -last, -25537)),
		"gaps beyond, from the other":    dated([]int{1, 2, 3}, gap(1, 0, 40000, last), gap(1, 2, -last, -25537)),
		"two hands":                      laid(2, hand(0, 1, true), hand(0, 1, false)),
		"two hands, turned round":        laid(2, hand(0, 1, true), hand(1, 0, false)),
		"hands in a ring":                laid(3, hand(0, 1, true), hand(1, 2, true), hand(2, 0, false)),
		"hands in a ring, none the same": laid(3, hand(0, 1, false), hand(1, 2, false), hand(0, 2, false)),
		"hands of the last plates":       laid(8, hand(4, 5, false), hand(6, 7, true), hand(5, 6, false), hand(7, 4, false)),
		"the example, and one hand more": example,
	}
}

// Examples: all that the chapter's table, and the document's own examples, tell of the pile P.
func TestExample(t *testing.T) {
	p := example()
	for plates, want := range map[int]bool{set(0, 1): true, set(0, 2): false, set(1, 3): true} {
		is, e := turn.Can(p, plates)
		same(t, "Can", is, want)
		same(t, "Can", e, api.OK)
	}
	for _, x := range []struct {
		plates, plate int
		days          api.Span
	}{{set(0, 1), 2, span(150, 165)}, {set(0), 3, span(105, 110)}} {
		days, e := turn.Days(p, x.plates, x.plate)
		same(t, "Days", days, x.days)
		same(t, "Days", e, api.OK)
	}
	for plates, want := range map[int]int{set(0, 1): 2, 0: 1} {
		n, e := turn.Hand(p, plates, 2)
		same(t, "Hand", n, want)
		same(t, "Hand", e, api.OK)
	}
	for plates, want := range map[int]int{set(0): 1, set(2): 2, set(1): 0} {
		n, e := turn.Why(p, plates, 3)
		same(t, "Why", n, want)
		same(t, "Why", e == api.ErrNone, want == 0)
	}
	for plate, want := range []int{set(2), set(2), set(0), set(0)} {
		others, e := turn.False(p, plate)
		same(t, "False", others, want)
		same(t, "False", e, api.OK)
	}
	wrong, e := turn.Wrong(p)
	same(t, "Wrong", wrong, set(0, 2))
	same(t, "Wrong", e, api.OK)
	all, some, e := turn.Surely(p)
	same(t, "Surely", [2]int{all, some}, [2]int{set(2), set(0, 2, 3)})
	same(t, "Surely", e, api.OK)
}

// asked is what is told of a plate of a pile if others are right.
type asked struct {
	name          string
	p             api.TurnPile
	plates, plate int
	of
}

// ofDays are piles whose days tell something.
func ofDays() []asked {
	two := func(said int, gaps ...api.TurnGap) api.TurnPile { return dated([]int{100, said}, gaps...) }
	wide := func(lo, hi int, gaps ...api.TurnGap) api.TurnPile {
		return api.TurnPile{Said: []api.Span{span(100, 110), span(lo, hi)}, Gaps: gaps}
	}
	row := dated([]int{100, 115, 140, 500}, gap(0, 1, 10, 20), gap(1, 2, 20, 30))
	ring := dated([]int{100, 110, 120}, gap(0, 1, 10, 20), gap(2, 1, -30, -20), gap(0, 2, 0, 35))
	return []asked{
		{"nothing is known", two(7), 0, 1, of{span(0, last), 1, 0}},
		{"nothing is known but of itself", two(7), set(1), 1, of{only(7), 0, 0}},
		{"nothing is known but of another one", two(7), set(0), 1, of{span(0, last), 1, 0}},
		{"a gap alone", two(30, gap(0, 1, 30, 40)), 0, 1, of{span(30, last), 1, 0}},
		{"a gap alone, and it is said to be earlier", two(29, gap(0, 1, 30, 40)), 0, 1, of{span(30, last), 1, 1}},
		{"a gap alone, of the first one", two(7, gap(0, 1, 30, 40)), 0, 0, of{span(0, last-30), 1, 0}},
		{"a gap to both sides", two(7, gap(0, 1, -30, 40)), 0, 1, of{span(0, last), 1, 0}},
		{"a gap below zero", two(last-30, gap(0, 1, -40, -30)), 0, 1, of{span(0, last-30), 1, 0}},
		{"a gap below zero, and it is said to be later", two(last-29, gap(0, 1, -40, -30)), 0, 1, of{span(0, last-30), 1, 1}},
		{"a gap below zero, of the first one", two(7, gap(0, 1, -40, -30)), 0, 0, of{span(30, last), 1, 0}},
		{"a gap, at its first end", two(130, gap(0, 1, 30, 40)), set(0), 1, of{span(130, 140), 1, 0}},
		{"a gap, at its last end", two(140, gap(0, 1, 30, 40)), set(0), 1, of{span(130, 140), 1, 0}},
		{"a gap, too early", two(129, gap(0, 1, 30, 40)), set(0), 1, of{span(130, 140), 1, 1}},
		{"a gap, too late", two(141, gap(0, 1, 30, 40)), set(0), 1, of{span(130, 140), 1, 1}},
		{"a gap, too late by far", two(last, gap(0, 1, 30, 40)), set(0), 1, of{span(130, 140), 1, 1}},
		{"a gap, and the second one", two(130, gap(0, 1, 30, 40)), set(1), 0, of{span(90, 100), 1, 0}},
		{"a gap, and the second one, too early", two(129, gap(0, 1, 30, 40)), set(1), 0, of{span(89, 99), 1, 1}},
		{"a gap, and both", two(131, gap(0, 1, 30, 40)), set(0, 1), 1, of{only(131), 0, 0}},
		{"a gap of one number", two(131, gap(0, 1, 31, 31)), set(0), 1, of{only(131), 1, 0}},
		{"a gap to the last day", two(last, gap(0, 1, last-110, last)), set(0), 1, of{span(last-10, last), 1, 0}},
		{"a gap to the first day", two(0, gap(1, 0, 90, last)), set(0), 1, of{span(0, 10), 1, 0}},
		{"the widest gap", two(last, gap(0, 1, last, last)), 0, 0, of{only(0), 1, 1}},
		{"the widest gap, of the other one", two(last, gap(0, 1, last, last)), 0, 1, of{only(last), 1, 0}},
		{"several days are said", wide(130, 150, gap(0, 1, 30, 35)), set(0), 1, of{span(130, 145), 1, 0}},
		{"several days are said, and both are right", wide(138, 150, gap(0, 1, 30, 35)), set(0, 1), 1, of{span(138, 145), 0, 0}},
		{"several days are said, and both are right, of the first one", wide(138, 150, gap(0, 1, 30, 35)), set(0, 1), 0, of{span(103, 110), 0, 0}},
		{"several days are said, all too early", wide(0, 129, gap(0, 1, 30, 35)), set(0), 1, of{span(130, 145), 1, 1}},
		{"several days are said, all but one too early", wide(0, 130, gap(0, 1, 30, 35)), set(0), 1, of{span(130, 145), 1, 0}},
		{"several days are said, all too late", wide(146, last, gap(0, 1, 30, 35)), set(0), 1, of{span(130, 145), 1, 1}},
		{"several days are said, all but one too late", wide(145, last, gap(0, 1, 30, 35)), set(0), 1, of{span(130, 145), 1, 0}},
		{"several days are said around all", wide(0, last, gap(0, 1, 30, 35)), set(0), 1, of{span(130, 145), 1, 0}},
		{"two gaps of two plates", two(135, gap(0, 1, 30, 40), gap(0, 1, 35, 50)), set(0), 1, of{span(135, 140), 1, 0}},
		{"two gaps of two plates, one of them turned round", two(135, gap(0, 1, 30, 40), gap(1, 0, -50, -35)), set(0), 1, of{span(135, 140), 1, 0}},
		{"two gaps in a row", row, set(0), 2, of{span(130, 150), 1, 0}},
		{"two gaps in a row, from the other end", row, set(2), 0, of{span(90, 110), 1, 0}},
		{"two gaps in a row, from between", row, set(1), 2, of{span(135, 145), 1, 0}},
		{"two gaps in a row, and what is between", row, set(0, 1), 2, of{span(135, 145), 1, 0}},
		{"two gaps in a row, and both ends", row, set(0, 2), 1, of{span(110, 120), 1, 0}},
		{"two gaps in a row, and no gap", row, set(0, 2), 3, of{span(0, last), 1, 0}},
		{"two gaps in a row, and nothing is right", row, 0, 2, of{span(30, last), 1, 0}},
		{"two gaps in a row, nor between them", row, 0, 1, of{span(10, last-20), 1, 0}},
		{"two gaps in a row, nor at their first end", row, 0, 0, of{span(0, last-30), 1, 0}},
		{"a ring narrows a gap", ring, set(0), 1, of{span(110, 115), 1, 0}},
		{"a ring narrows two gaps", ring, set(0), 2, of{span(130, 135), 1, 1}},
	}
}

// ofHands are piles whose hands tell something.
func ofHands() []asked {
	row := laid(4, hand(0, 1, true), hand(1, 2, false))
	long := laid(8, hand(6, 7, false), hand(0, 1, false), hand(2, 3, true), hand(4, 5, false), hand(5, 6, true), hand(2, 1, false), hand(3, 4, true))
	days := span(0, last)
	return []asked{
		{"no hand", laid(2), set(0), 1, of{days, 1, 0}},
		{"no hand, and it is right", laid(2), set(1), 1, of{days, 0, 0}},
		{"the same", laid(2, hand(0, 1, true)), set(0), 1, of{days, 0, 0}},
		{"the same, turned round", laid(2, hand(1, 0, true)), set(0), 1, of{days, 0, 0}},
		{"not the same", laid(2, hand(0, 1, false)), set(0), 1, of{days, 2, 2}},
		{"not the same, turned round", laid(2, hand(1, 0, false)), set(0), 1, of{days, 2, 2}},
		{"not the same, and nothing is right", laid(2, hand(0, 1, false)), 0, 1, of{days, 1, 0}},
		{"not the same, nor is the other one", laid(2, hand(0, 1, false)), 0, 0, of{days, 1, 0}},
		{"the same, and nothing is right", laid(2, hand(0, 1, true)), 0, 1, of{days, 1, 0}},
		{"said twice", laid(2, hand(0, 1, false), hand(0, 1, false), hand(1, 0, false)), set(0), 1, of{days, 2, 2}},
		{"in a row", row, set(0), 2, of{days, 2, 2}},
		{"in a row, from the other end", row, set(2), 0, of{days, 2, 2}},
		{"in a row, from between", row, set(1), 0, of{days, 0, 0}},
		{"in a row, both first ones", row, set(0, 1), 2, of{days, 2, 2}},
		{"in a row, and no hand", row, set(0, 1), 3, of{days, 1, 0}},
		{"in a row, and what tells nothing", row, set(3), 2, of{days, 1, 0}},
		{"twice not the same", laid(3, hand(0, 1, false), hand(1, 2, false)), set(0), 2, of{days, 0, 0}},
		{"all in a row, out of order", long, set(0), 7, of{days, 0, 0}},
		{"all in a row, out of order, the one before", long, set(0), 6, of{days, 2, 2}},
		{"all in a row, out of order, from the other end", long, set(7), 1, of{days, 2, 2}},
		{"all in a row, out of order, from between", long, set(4), 2, of{days, 0, 0}},
	}
}

// ofBoth are piles whose days and hands tell something.
func ofBoth() []asked {
	both := withHands(dated([]int{100, 140}, gap(0, 1, 10, 20)), hand(0, 1, false))
	far := withHands(dated([]int{100, 140, 110}, gap(0, 1, 10, 20), gap(0, 2, 10, 20)), hand(0, 2, false))
	return []asked{
		{"both", both, set(0), 1, of{span(110, 120), 2, 3}},
		{"both, of the other one", both, set(1), 0, of{span(120, 130), 2, 3}},
		{"both, and nothing is right", both, 0, 1, of{span(10, last), 1, 0}},
		{"the day alone", far, set(0), 1, of{span(110, 120), 1, 1}},
		{"the hand alone", far, set(0), 2, of{span(110, 120), 2, 2}},
		{"another plate's hand", far, set(2), 1, of{span(100, 120), 1, 1}},
		{"the example, by 0 and 1", example(), set(0, 1), 2, of{span(150, 165), 2, 2}},
		{"the example, by 0", example(), set(0), 3, of{span(105, 110), 0, 1}},
		{"the example, by 0, of 1", example(), set(0), 1, of{span(130, 140), 0, 0}},
		{"the example, by 0, of 2", example(), set(0), 2, of{span(150, 170), 2, 2}},
		{"the example, by 2", example(), set(2), 3, of{span(95, 120), 2, 2}},
		{"the example, by 2, of 0", example(), set(2), 0, of{span(90, 110), 2, 2}},
		{"the example, by 1 and 3", example(), set(1, 3), 0, of{only(90), 0, 1}},
		{"the example, by 1 and 3, of 2", example(), set(1, 3), 2, of{span(150, 160), 2, 2}},
		{"the example, by 3, of 0", example(), set(3), 0, of{span(80, 90), 0, 1}},
		{"the example, by none", example(), 0, 3, of{span(5, last-40), 1, 0}},
	}
}

// all returns the cases of all kinds.
func all() []asked {
	list := append(ofDays(), ofHands()...)
	return append(list, ofBoth()...)
}

// P9.2: from the least to the greatest day.
func TestDays(t *testing.T) {
	for _, x := range all() {
		days, e := turn.Days(x.p, x.plates, x.plate)
		same(t, x.name, days, x.days)
		same(t, x.name, e, api.OK)
	}
}

// P9.3: whether a plate was turned over in all truths, in some, or in none.
func TestHand(t *testing.T) {
	for _, x := range all() {
		n, e := turn.Hand(x.p, x.plates, x.plate)
		same(t, x.name, n, x.hand)
		same(t, x.name, e, api.OK)
	}
}

// P9.4: why a plate is false in all truths; ErrNone if it is for neither reason.
func TestWhy(t *testing.T) {
	for _, x := range all() {
		want := api.OK
		if x.why == 0 {
			want = api.ErrNone
		}
		n, e := turn.Why(x.p, x.plates, x.plate)
		same(t, x.name, n, x.why)
		same(t, x.name, e, want)
	}
}

// P9.1: a plate can be right with others just if neither its day nor its hand is false in all truths in which they are.
func TestCan(t *testing.T) {
	for _, x := range all() {
		is, e := turn.Can(x.p, x.plates|1<<x.plate)
		same(t, x.name, is, x.why == 0)
		same(t, x.name, e, api.OK)
	}
	three := dated([]int{100, 110, 120}, gap(0, 1, 10, 15), gap(1, 2, 11, 15))
	for right, want := range []bool{true, true, true, true, true, false, false, false} {
		is, e := turn.Can(three, right)
		same(t, "three", is, want)
		same(t, "three", e, api.OK)
	}
	never := dated([]int{10, 3}, gap(0, 1, 5, 9))
	for right, want := range []bool{true, true, false, false} {
		is, e := turn.Can(never, right)
		same(t, "a day that is in no truth", is, want)
		same(t, "a day that is in no truth", e, api.OK)
	}
	is, e := turn.Can(api.TurnPile{}, 0)
	same(t, "no plates", is, true)
	same(t, "no plates", e, api.OK)
}

// pile is a pile, and what is told of it as a whole: of each plate, the fewest others that prove it to be false (-1: none do),
// and the fewest plates that must be.
type pile struct {
	name             string
	p                api.TurnPile
	proofs           []int
	wrong, all, some int
}

// piles are piles of all kinds.
func piles() []pile {
	star := laid(5, hand(4, 0, false), hand(4, 1, false), hand(4, 2, false), hand(4, 3, false))
	pairs := laid(8, hand(0, 1, false), hand(2, 3, false), hand(4, 5, false), hand(6, 7, false))
	halves := laid(6, hand(0, 1, true), hand(1, 2, true), hand(2, 3, false), hand(3, 4, true), hand(4, 5, true))
	most := laid(6, hand(5, 4, true), hand(1, 2, true), hand(2, 3, true), hand(3, 4, false))
	row := dated([]int{50, 60, 70, 80, 90}, gap(0, 1, 10, 10), gap(1, 2, 10, 10), gap(2, 3, 10, 10), gap(3, 4, 11, 11))
	middle := dated([]int{50, 60, 75, 80, 90}, gap(0, 1, 10, 10), gap(1, 2, 10, 10), gap(2, 3, 10, 10), gap(3, 4, 10, 10))
	early := withHands(dated([]int{3, 10, 13}, gap(1, 0, 4, 9), gap(1, 2, 4, 4)), hand(0, 1, false))
	ends := func(from int) api.TurnPile {
		return api.TurnPile{Said: []api.Span{span(0, 10), span(0, 10), span(from, 20)}, Gaps: []api.TurnGap{gap(0, 1, 5, 9), gap(1, 2, 3, 4)}}
	}
	return []pile{
		{"no plates", api.TurnPile{}, nil, 0, 0, 0},
		{"one plate", laid(1), []int{-1}, 0, 0, 0},
		{"as many as can be", laid(8), []int{-1, -1, -1, -1, -1, -1, -1, -1}, 0, 0, 0},
		{"all are right", dated([]int{10, 15}, gap(0, 1, 5, 6)), []int{-1, -1}, 0, 0, 0},
		{"one of two, by days", dated([]int{10, 30}, gap(0, 1, 5, 6)), []int{2, 1}, 1, 0, 3},
		{"one of two, by hands", laid(2, hand(0, 1, false)), []int{2, 1}, 1, 0, 3},
		{"one of two, by both", withHands(dated([]int{10, 30}, gap(0, 1, 5, 6)), hand(1, 0, false)), []int{2, 1}, 1, 0, 3},
		{"one in each truth", dated([]int{10, 3}, gap(0, 1, 5, 9)), []int{-1, 0}, 2, 2, 2},
		{"one in each truth, at the last day", dated([]int{last - 3, 10}, gap(0, 1, 5, 9)), []int{0, -1}, 1, 1, 1},
		{"two in each truth", dated([]int{9, last, 5}, gap(0, 2, 9, 9), gap(1, 2, 3, 3)), []int{-1, 0, 0}, 6, 6, 6},
		{"both in each truth", dated([]int{last, 0}, gap(0, 1, 1, 9)), []int{0, 0}, 3, 3, 3},
		{"one in each truth, and one of two", early, []int{0, 4, 2}, 3, 1, 7},
		{"the last of three", dated([]int{10, 20, 99}, gap(0, 1, 10, 10), gap(1, 2, 10, 10)), []int{4, 4, 1}, 4, 4, 4},
		{"the first of three", dated([]int{99, 20, 30}, gap(0, 1, 10, 10), gap(1, 2, 10, 10)), []int{2, 1, 1}, 1, 1, 1},
		{"one between, by hands", laid(3, hand(0, 1, false), hand(1, 2, false)), []int{2, 1, 2}, 2, 2, 2},
		{"one against all others", star, []int{16, 16, 16, 16, 1}, 16, 16, 16},
		{"four of eight", pairs, []int{2, 1, 8, 4, 32, 16, 128, 64}, 85, 0, 255},
		{"three of six, on either side", halves, []int{8, 8, 8, 1, 1, 1}, 7, 0, 63},
		{"three against two, and one of no matter", most, []int{-1, 16, 16, 16, 2, 2}, 48, 48, 48},
		{"the last one of five", row, []int{16, 16, 16, 16, 1}, 16, 16, 16},
		{"the middle one of five", middle, []int{4, 4, 1, 4, 4}, 4, 4, 4},
		{"to the end of what is said", ends(14), []int{-1, -1, -1}, 0, 0, 0},
		{"beyond the end of what is said", ends(15), []int{-1, 4, 2}, 2, 0, 6},
		{"beyond the end of what is said of both", ends(18), []int{-1, 4, 2}, 2, 0, 6},
		{"the example", example(), []int{4, 4, 1, 1}, 5, 4, 13},
		{"the example, of one hand less", example(func(p *api.TurnPile) { p.Hands = p.Hands[:2] }), []int{4, 4, 1, 1}, 3, 0, 15},
		{"the example, without hands", example(func(p *api.TurnPile) { p.Hands = nil }), []int{8, -1, -1, 1}, 1, 0, 9},
	}
}

// P9.5: the fewest plates that prove that one is false, and the least number of several.
func TestFalse(t *testing.T) {
	for _, x := range piles() {
		for plate, want := range x.proofs {
			none := api.OK
			if want < 0 {
				want, none = 0, api.ErrNone
			}
			others, e := turn.False(x.p, plate)
			same(t, x.name, others, want)
			same(t, x.name, e, none)
		}
	}
}

// P9.6: the fewest plates without which all others can be right, and the least number of several.
func TestWrong(t *testing.T) {
	for _, x := range piles() {
		wrong, e := turn.Wrong(x.p)
		same(t, x.name, wrong, x.wrong)
		same(t, x.name, e, api.OK)
	}
}

// P9.7: the plates that all, and some, of the sets with the fewest plates have.
func TestSurely(t *testing.T) {
	for _, x := range piles() {
		all, some, e := turn.Surely(x.p)
		same(t, x.name, all, x.all)
		same(t, x.name, some, x.some)
		same(t, x.name, e, api.OK)
	}
}
