package turn_test

import (
	"math"
	"reflect"
	"testing"

	"zoneworks/api"
	"zoneworks/turn"
)

// unsound are sets of plates, and numbers of plates, that no pile has, and some that it has.
func unsound() []int {
	return []int{0, 1, 3, -1, 4, 8, 16, 256, 1 << 17, 1 << 40, math.MinInt, math.MaxInt}
}

// refusedFor fails unless each function that is told of plates refuses a pile with an error, and tells nothing (R2).
func refusedFor(t *testing.T, name string, p api.TurnPile, right, plate int, want api.Errno) {
	t.Helper()
	days, e := turn.Days(p, right, plate)
	same(t, "Days, "+name, days, api.Span{})
	same(t, "Days, "+name, e, want)
	hand, e := turn.Hand(p, right, plate)
	same(t, "Hand, "+name, hand, 0)
	same(t, "Hand, "+name, e, want)
	why, e := turn.Why(p, right, plate)
	same(t, "Why, "+name, why, 0)
	same(t, "Why, "+name, e, want)
}

// refusedSet fails unless Can refuses a set with an error, and tells nothing (R2).
func refusedSet(t *testing.T, name string, p api.TurnPile, right int, want api.Errno) {
	t.Helper()
	is, e := turn.Can(p, right)
	same(t, "Can, "+name, is, false)
	same(t, "Can, "+name, e, want)
}

// refusedPlate fails unless False refuses a plate with an error, and tells nothing (R2).
func refusedPlate(t *testing.T, name string, p api.TurnPile, plate int, want api.Errno) {
	t.Helper()
	others, e := turn.False(p, plate)
	same(t, "False, "+name, others, 0)
	same(t, "False, "+name, e, want)
}

// refusedPile fails unless Wrong and Surely refuse a pile with an error, and tell nothing (R2).
func refusedPile(t *testing.T, name string, p api.TurnPile, want api.Errno) {
	t.Helper()
	wrong, e := turn.Wrong(p)
	same(t, "Wrong, "+name, wrong, 0)
	same(t, "Wrong, "+name, e, want)
	all, some, e := turn.Surely(p)
	same(t, "Surely, "+name, [2]int{all, some}, [2]int{})
	same(t, "Surely, "+name, e, want)
}

// refused fails unless each function refuses a pile that is not valid, whatever else it is given (R1).
func refused(t *testing.T, name string, p api.TurnPile) {
	t.Helper()
	for _, a := range unsound() {
		for _, b := range unsound() {
			refusedFor(t, name, p, a, b, api.ErrArg)
		}
		refusedSet(t, name, p, a, api.ErrArg)
		refusedPlate(t, name, p, a, api.ErrArg)
	}
	refusedPile(t, name, p, api.ErrArg)
}

// taken fails unless all functions take a pile, whether or not there is a truth.
func taken(t *testing.T, name string, p api.TurnPile) {
	t.Helper()
	if x := tellAll(t, p); x.e != api.OK && x.e != api.ErrClash {
		t.Error(name, x.e)
	}
}

// Terms: the numbers of a pile, each of them at both of its bounds.
func TestValidNumbers(t *testing.T) {
	for name, x := range map[string]struct {
		lo, hi int
		of     func(p *api.TurnPile) *int
	}{
		"Said, from":             {0, 135, func(p *api.TurnPile) *int { return &p.Said[1].Lo }},
		"Said, to":               {130, 65536, func(p *api.TurnPile) *int { return &p.Said[1].Hi }},
		"Said, from, the first":  {0, 100, func(p *api.TurnPile) *int { return &p.Said[0].Lo }},
		"Said, to, the last":     {90, 65536, func(p *api.TurnPile) *int { return &p.Said[3].Hi }},
		"By, from":               {-65536, 30, func(p *api.TurnPile) *int { return &p.Gaps[1].By.Lo }},
		"By, to":                 {20, 65536, func(p *api.TurnPile) *int { return &p.Gaps[1].By.Hi }},
		"By, from, the first":    {-65536, 40, func(p *api.TurnPile) *int { return &p.Gaps[0].By.Lo }},
		"By, to, the last":       {5, 65536, func(p *api.TurnPile) *int { return &p.Gaps[2].By.Hi }},
		"By, to, below zero":     {-9, 65536, func(p *api.TurnPile) *int { p.Gaps[1].By.Lo = -9; return &p.Gaps[1].By.Hi }},
		"First of a gap":         {0, 2, func(p *api.TurnPile) *int { p.Gaps[1].Second = 3; return &p.Gaps[1].First }},
		"First of another gap":   {1, 3, func(p *api.TurnPile) *int { p.Gaps[0].Second = 0; return &p.Gaps[0].First }},
		"Second of a gap":        {0, 2, func(p *api.TurnPile) *int { p.Gaps[2].First = 3; return &p.Gaps[2].Second }},
		"Second of another gap":  {1, 3, func(p *api.TurnPile) *int { return &p.Gaps[0].Second }},
		"First of a hand":        {0, 2, func(p *api.TurnPile) *int { p.Hands[1].Second = 3; return &p.Hands[1].First }},
		"First of another hand":  {1, 3, func(p *api.TurnPile) *int { p.Hands[0].Second = 0; return &p.Hands[0].First }},
		"Second of a hand":       {0, 2, func(p *api.TurnPile) *int { p.Hands[2].First = 3; return &p.Hands[2].Second }},
		"Second of another hand": {1, 3, func(p *api.TurnPile) *int { return &p.Hands[0].Second }},
	} {
		p := example()
		of := x.of(&p)
		for _, bad := range []int{x.lo - 1, x.hi + 1, math.MinInt, math.MaxInt} {
			*of = bad
			refused(t, name, p)
		}
		for _, good := range []int{x.lo, x.hi, (x.lo + x.hi) / 2} {
			*of = good
			taken(t, name, p)
		}
	}
}

// Terms: both plates of a gap, and of a hand, differ, also if they are of no matter otherwise.
func TestValidPairs(t *testing.T) {
	for plate := range 4 {
		refused(t, "a gap", example(func(p *api.TurnPile) { p.Gaps[1] = gap(plate, plate, -9, 9) }))
		refused(t, "a hand", example(func(p *api.TurnPile) { p.Hands[2] = hand(plate, plate, true) }))
	}
	for plates := range 2 {
		p := laid(plates)
		for first := range 3 {
			for second := range 3 {
				p.Gaps, p.Hands = []api.TurnGap{gap(first, second, -9, 9)}, nil
				refused(t, "a gap of too few plates", p)
				p.Gaps, p.Hands = nil, []api.TurnHand{hand(first, second, true)}
				refused(t, "a hand of too few plates", p)
			}
		}
	}
	// What is counted from, and what lies straight, is none of the plates, also if there are as many as can be.
	p := laid(8, hand(7, 8, true))
	refused(t, "a hand of the plate 8", p)
	p.Hands, p.Gaps = nil, []api.TurnGap{gap(8, 7, 0, 9)}
	refused(t, "a gap of the plate 8", p)
}

// Terms: how many plates, gaps and hands there can be.
func TestValidLists(t *testing.T) {
	for plates := range 12 {
		if p := laid(plates); plates > 8 {
			refused(t, "too many plates", p)
		} else {
			taken(t, "plates", p)
		}
	}
	for many := range 16 {
		gaps, hands := laid(2), laid(2)
		for range many {
			gaps.Gaps = append(gaps.Gaps, gap(0, 1, -9, 9))
			hands.Hands = append(hands.Hands, hand(1, 0, true))
		}
		if many > 12 {
			refused(t, "too many gaps", gaps)
			refused(t, "too many hands", hands)
		} else {
			taken(t, "gaps", gaps)
			taken(t, "hands", hands)
		}
	}
	refused(t, "far too many plates", api.TurnPile{Said: make([]api.Span, 5000)})
	refused(t, "far too many gaps", api.TurnPile{Gaps: make([]api.TurnGap, 5000)})
	refused(t, "far too many hands", api.TurnPile{Hands: make([]api.TurnHand, 5000)})
	taken(t, "nothing", api.TurnPile{})
}

// ranges are piles, and the set of all of their plates.
func ranges() map[string]struct {
	p   api.TurnPile
	all int
	e   api.Errno
} {
	return map[string]struct {
		p   api.TurnPile
		all int
		e   api.Errno
	}{
		"example":          {example(), 15, api.OK},
		"no plates":        {api.TurnPile{}, 0, api.OK},
		"one":              {laid(1), 1, api.OK},
		"as many":          {laid(8), 255, api.OK},
		"no truth":         {dated([]int{1, 2}, gap(0, 1, 5, 5), gap(1, 0, 5, 5)), 3, api.ErrClash},
		"no truth of hand": {laid(3, hand(0, 1, true), hand(1, 0, false)), 7, api.ErrClash},
	}
}

// Errors: ErrRange unless a set of plates is one; it comes before ErrClash.
func TestNoPlates(t *testing.T) {
	for name, x := range ranges() {
		for _, bad := range []int{-1, x.all + 1, 2 * (x.all + 1), x.all + 2, -x.all - 1, 256, 1 << 31, 1<<40 | 1, math.MinInt, math.MinInt | 1, math.MaxInt} {
			refusedSet(t, name, x.p, bad, api.ErrRange)
			for _, plate := range []int{0, 1, -1, 9} {
				refusedFor(t, name, x.p, bad, plate, api.ErrRange)
			}
		}
		for good := range x.all + 1 {
			_, e := turn.Can(x.p, good)
			same(t, name, e, x.e)
		}
	}
}

// Errors: ErrRange unless a number of a plate is one; it comes before ErrClash and ErrRefuse.
func TestNoPlate(t *testing.T) {
	for name, x := range ranges() {
		for _, bad := range []int{-1, size(x.all), size(x.all) + 1, 8, 64, math.MinInt, math.MaxInt} {
			refusedPlate(t, name, x.p, bad, api.ErrRange)
			for right := range x.all + 1 {
				refusedFor(t, name, x.p, right, bad, api.ErrRange)
			}
		}
	}
}

// Errors: without a truth there is nothing to be told; ErrClash comes before ErrRefuse and ErrNone.
func TestNoTruth(t *testing.T) {
	for name, p := range clashes() {
		for right := range 1 << len(p.Said) {
			refusedSet(t, name, p, right, api.ErrClash)
			for plate := range p.Said {
				refusedFor(t, name, p, right, plate, api.ErrClash)
			}
		}
		for plate := range p.Said {
			refusedPlate(t, name, p, plate, api.ErrClash)
		}
		refusedPile(t, name, p, api.ErrClash)
	}
}

// Errors: what cannot be is refused, also if the plate that is asked of is none of those; it comes before ErrNone.
func TestNotRight(t *testing.T) {
	p := example()
	for right := range 16 {
		can := right == set(2) || !has(right, 2) && !isIn(set(0, 3), right)
		is, e := turn.Can(p, right)
		same(t, "Can", is, can)
		same(t, "Can", e, api.OK)
		for plate := range 4 {
			if !can {
				refusedFor(t, "example", p, right, plate, api.ErrRefuse)
			} else if _, e := turn.Days(p, right, plate); e != api.OK {
				t.Error(right, plate, e)
			}
		}
	}
}

// R3: a nil list is an empty one.
func TestNilAndEmpty(t *testing.T) {
	empty := api.TurnPile{Said: []api.Span{}, Gaps: []api.TurnGap{}, Hands: []api.TurnHand{}}
	if a, b := tellAll(t, empty), tellAll(t, api.TurnPile{}); !reflect.DeepEqual(a, b) || a.e != api.OK {
		t.Error(a, b)
	}
	one, other := laid(2), laid(2)
	other.Gaps, other.Hands = []api.TurnGap{}, []api.TurnHand{}
	if a, b := tellAll(t, one), tellAll(t, other); !reflect.DeepEqual(a, b) || a.e != api.OK {
		t.Error(a, b)
	}
}

// R4: no function changes the pile, or writes behind its lists; and asked again, it tells the same.
func TestPileIsKept(t *testing.T) {
	r := random()
	for range 60 {
		p := anyPile(r, pick(r, 0, 8))
		before := copyOf(p)
		p.Said = append(p.Said, only(77))[:len(p.Said)]
		p.Gaps = append(p.Gaps, gap(7, 7, 7, 7))[:len(p.Gaps)]
		p.Hands = append(p.Hands, hand(7, 7, true))[:len(p.Hands)]
		a, b := tellAll(t, p), tellAll(t, p)
		if !reflect.DeepEqual(a, b) || !reflect.DeepEqual(copyOf(p), before) {
			t.Error(p, before, a, b)
		}
		same(t, "behind Said", p.Said[:len(p.Said)+1][len(p.Said)], only(77))
		same(t, "behind Gaps", p.Gaps[:len(p.Gaps)+1][len(p.Gaps)], gap(7, 7, 7, 7))
		same(t, "behind Hands", p.Hands[:len(p.Hands)+1][len(p.Hands)], hand(7, 7, true))
	}
}

// P1: the largest piles end, however far their days are apart.
func TestLargest(t *testing.T) {
	const last = api.MaxDay
	p := laid(8)
	for n := range 12 {
		p.Gaps = append(p.Gaps, gap(n%8, (n+1+n/8)%8, -last, last))
		p.Hands = append(p.Hands, hand(n%8, (n+1+n/8)%8, true))
	}
	if x := tellAll(t, p); x.e != api.OK || x.wrong != 0 || x.all != 0 || x.some != 0 {
		t.Error(x)
	}
	for n := range p.Gaps {
		p.Gaps[n] = gap(n%8, (n+1)%8, last, last)
	}
	if x := tellAll(t, p); x.e != api.ErrClash {
		t.Error(x)
	}
}
