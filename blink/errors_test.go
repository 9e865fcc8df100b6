package blink_test

import (
	"math"
	"reflect"
	"slices"
	"testing"

	"zoneworks/api"
	"zoneworks/blink"
)

// refused fails unless each function refuses a blink with an error, whatever numbers of stars there are, and tells nothing
// (R1, R2).
func refused(t *testing.T, name string, b api.Blink, want api.Errno) {
	t.Helper()
	for _, n := range []two{{}, {-1, 0}, {0, -1}, {0, 99}, {99, 0}, {math.MinInt, math.MaxInt}, {math.MaxInt, math.MinInt}} {
		bits, e := blink.Can(b, n.a, n.b)
		same(t, "Can, "+name, bits, 0)
		same(t, "Can, "+name, e, want)
	}
	x := tellAll(b)
	same(t, name, x.errors, [6]api.Errno{want, want, want, want, want, want})
	x.errors = [6]api.Errno{}
	if nothing := (told{first: []int{}, second: []int{}, fewest: []int{}}); !reflect.DeepEqual(x, nothing) {
		t.Error(name, x)
	}
}

// taken fails unless all functions take a blink, whether or not there is a joining.
func taken(t *testing.T, name string, b api.Blink) {
	t.Helper()
	if x := tellAll(b); !x.isJoined() && !x.isRefused() {
		t.Error(name, x.errors)
	}
}

// Terms: the numbers of a blink, each of them at both of its bounds.
func TestValidNumbers(t *testing.T) {
	for name, x := range map[string]struct {
		lo, hi int
		of     func(b *api.Blink) *int
	}{
		"Move, from Still":        {2, 10000, func(b *api.Blink) *int { return &b.Move }},
		"Move":                    {0, 10000, func(b *api.Blink) *int { b.Still = 0; return &b.Move }},
		"Still, to Move":          {0, 10, func(b *api.Blink) *int { return &b.Still }},
		"Still, to a greater one": {0, 10000, func(b *api.Blink) *int { b.Move = 10000; return &b.Still }},
		"Still, of no move":       {0, 0, func(b *api.Blink) *int { b.Move = 0; return &b.Still }},
		"Vary, from Same":         {1, 1000, func(b *api.Blink) *int { return &b.Vary }},
		"Vary":                    {0, 1000, func(b *api.Blink) *int { b.Same = 0; return &b.Vary }},
		"Same, to Vary":           {0, 5, func(b *api.Blink) *int { return &b.Same }},
		"Same, to a greater one":  {0, 1000, func(b *api.Blink) *int { b.Vary = 1000; return &b.Same }},
		"Same, of no change":      {0, 0, func(b *api.Blink) *int { b.Vary = 0; return &b.Same }},
		"Gone":                    {0, 18, func(b *api.Blink) *int { return &b.Gone }},
	} {
		b := example()
		of := x.of(&b)
		for _, bad := range []int{x.lo - 1, x.hi + 1, math.MinInt, math.MaxInt} {
			*of = bad
			refused(t, name, b, api.ErrArg)
		}
		for _, good := range []int{x.lo, x.hi, (x.lo + x.hi) / 2} {
			*of = good
			taken(t, name, b)
		}
	}
}

// badSheets are changes after which a sheet is not valid.
func badSheets() map[string]func(s *api.Sheet) {
	const place = 1 << 20
	return map[string]func(s *api.Sheet){
		"Limit":             func(s *api.Sheet) { s.Limit = -1 },
		"a great Limit":     func(s *api.Sheet) { s.Limit = 1001 },
		"Flaws":             func(s *api.Sheet) { s.Flaws = -1 },
		"great Flaws":       func(s *api.Sheet) { s.Flaws = 10 },
		"X of a step":       func(s *api.Sheet) { s.Steps[0].X = span(1, 0) },
		"Y of a step":       func(s *api.Sheet) { s.Steps[1].Y = span(0, place+1) },
		"a fade":            func(s *api.Sheet) { s.Fades[0] = span(0, 1001) },
		"another fade":      func(s *api.Sheet) { s.Fades[1] = span(-1, 0) },
		"X of an image":     func(s *api.Sheet) { s.Spots[0].X = span(-1, 0) },
		"Y of an image":     func(s *api.Sheet) { s.Spots[2].Y = span(0, place+1) },
		"Size of an image":  func(s *api.Sheet) { s.Spots[1].Size = span(7, 6) },
		"too many images":   func(s *api.Sheet) { s.Spots = make([]api.Spot, 10) },
		"far too many ones": func(s *api.Sheet) { s.Spots = make([]api.Spot, 1000) },
	}
}

// Terms: both sheets are valid; one that is not comes before one that has no way, whichever of them is the first one.
func TestValidSheets(t *testing.T) {
	for name, change := range badSheets() {
		b := example()
		change(&b.First)
		refused(t, "First, "+name, b, api.ErrArg)
		b.Second = untold()
		refused(t, "First, and Second has no way, "+name, b, api.ErrArg)
		refused(t, "Second, and First has no way, "+name, turned(b), api.ErrArg)
		b = example()
		change(&b.Second)
		refused(t, "Second, "+name, b, api.ErrArg)
		change(&b.First)
		refused(t, "both, "+name, b, api.ErrArg)
	}
	for first := range 10 {
		for second := range 10 {
			taken(t, "some stars", row(0, 0, 0, at(1, 2, 3, 4, 5, 6, 7, 8, 9)[:first], at(1, 2, 3, 4, 5, 6, 7, 8, 9)[:second]))
		}
	}
	taken(t, "nothing", api.Blink{})
}

// Errors: ErrNone if a sheet has no way; it comes before ErrRange, and before ErrRefuse.
func TestUntold(t *testing.T) {
	for name, change := range map[string]func(b *api.Blink){
		"First":         func(b *api.Blink) { b.First = untold() },
		"Second":        func(b *api.Blink) { b.Second = untold() },
		"both":          func(b *api.Blink) { b.First, b.Second = untold(), untold() },
		"trails":        func(b *api.Blink) { b.First = trails(0) },
		"trails, later": func(b *api.Blink) { b.Second = trails(0) },
		"one flaw":      func(b *api.Blink) { b.First = trails(0); b.Second = trails(1) },
	} {
		for _, gone := range []int{0, 2, 18} {
			refused(t, name, example(change, withGone(gone)), api.ErrNone)
		}
	}
}

// Errors: ErrRange unless numbers of stars are such, also if there is no joining; they are numbers of stars, not of images.
func TestOutOfRange(t *testing.T) {
	for name, x := range map[string]struct {
		b             api.Blink
		first, second int
	}{
		"example":    {example(), 3, 3},
		"no joining": {example(withGone(0)), 3, 3},
		"no stars":   {api.Blink{}, 0, 0},
		"two, one":   {row(0, 0, 0, at(1, 2), at(1)), 2, 1},
		"all":        {wide(9, 9, 0), 9, 9},
		"trails":     {api.Blink{First: trails(1), Second: trails(1)}, 2, 2},
	} {
		for _, bad := range []int{-1, math.MinInt, math.MaxInt, 64, 9, 0} {
			for _, n := range []two{{max(bad, x.first), 0}, {0, max(bad, x.second)}, {min(bad, -1), 0}, {0, min(bad, -1)}, {min(bad, -1), min(bad, -1)}} {
				bits, e := blink.Can(x.b, n.a, n.b)
				same(t, name, bits, 0)
				same(t, name, e, api.ErrRange)
			}
		}
		if x.first > 0 && x.second > 0 {
			can(t, x.b, 0, 0)
			can(t, x.b, x.first-1, x.second-1)
		}
	}
}

// Errors: ErrRefuse if there is no joining, and nothing else is told (R2); but Stars, Can and Count tell what they do.
func TestNoJoining(t *testing.T) {
	for name, b := range map[string]api.Blink{
		"example, one can be gone":  example(withGone(1)),
		"example, none can be gone": example(withGone(0)),
		"two and one":               row(5, 1, 0, at(10, 13), at(13)),
		"one and two":               row(5, 1, 0, at(13), at(10, 13)),
		"too far":                   row(5, 1, 1, at(10), at(16)),
		"too large":                 scale(5, 1, 1, sized(10), sized(16)),
		"one twin of two":           row(5, 1, 1, at(10, 11, 30), at(10, 31, 32)),
		"nine and none":             wide(9, 0, 8),
		"none and nine":             wide(0, 9, 8),
		"eight and nine":            wide(8, 9, 0),
	} {
		x := tellAll(b)
		if !x.isRefused() || x.count != 0 || len(x.first) != len(b.First.Spots) || len(x.second) != len(b.Second.Spots) {
			t.Error(name, x)
		}
		if len(x.fewest) != 0 || x.moved != (two{}) || x.varied != (two{}) || x.gone != (two{}) {
			t.Error(name, x)
		}
	}
	same(t, "Can", can(t, example(withGone(0)), 0, 0), 13)
}

// R3: a nil list is an empty one.
func TestNilAndEmpty(t *testing.T) {
	empty, none := row(1, 1, 1, []api.Spot{}, []api.Spot{}), row(1, 1, 1, nil, nil)
	if a, b := tellAll(empty), tellAll(none); !reflect.DeepEqual(a, b) || !a.isJoined() {
		t.Error(a, b)
	}
}

// P7.8, R4, and the second half of P12: no argument is changed, not even what is behind its lists; what is asked again is
// told again; and no result is memory of another one.
func TestArgumentsStay(t *testing.T) {
	for _, b := range []api.Blink{example(), example(withGone(0)), {First: trails(2), Second: trails(1)}, row(5, 1, 2, at(10, 13), at(13)), wide(3, 4, 3)} {
		more := spot(only(77), only(88), only(99))
		b.First.Spots, b.Second.Spots = append(b.First.Spots, more)[:len(b.First.Spots)], append(b.Second.Spots, more)[:len(b.Second.Spots)]
		behindFirst, behindSecond := b.First.Spots[:len(b.First.Spots)+1], b.Second.Spots[:len(b.Second.Spots)+1]
		before, beforeFirst, beforeSecond := copyOf(b), slices.Clone(behindFirst), slices.Clone(behindSecond)
		a := tellAll(b)
		first, second, _ := blink.Stars(b)
		fewest, _ := blink.Fewest(b)
		for n := range first {
			first[n] = 99
		}
		if want := a.second; !slices.Equal(second, want) {
			t.Error(second, want)
		}
		for _, list := range [][]int{second, fewest} {
			for n := range list {
				list[n] = 99
			}
			_ = append(list, 98, 97, 96)
		}
		if again := tellAll(b); !reflect.DeepEqual(a, again) {
			t.Error(a, again)
		}
		if !reflect.DeepEqual(copyOf(b), before) || !slices.Equal(behindFirst, beforeFirst) || !slices.Equal(behindSecond, beforeSecond) {
			t.Error(b, before)
		}
	}
}

// P1: the largest blinks end, whatever can be one body, and whatever images can be one star.
func TestLargest(t *testing.T) {
	all := wide(9, 9, 18)
	surely, can, e := blink.Moved(all)
	same(t, "Moved", two{surely, can}, two{0, 511})
	same(t, "Moved", e, api.OK)
	first, second, e := blink.Gone(all)
	same(t, "Gone", two{first, second}, two{})
	same(t, "Gone", e, api.OK)
	for _, gone := range []int{0, 3, 4, 18} {
		// Three stars have one twin together, so there is much to go through before it is known that some are gone.
		b := wide(9, 9, gone)
		for n := range 3 {
			b.First.Spots[8-n].Size = only(104)
		}
		for n := range 8 {
			b.Second.Spots[8-n].Size = span(5, 90)
		}
		b.Vary = 10
		x := tellAll(b)
		same(t, "few joinings", x.isJoined(), gone >= 4)
		same(t, "few joinings", x.isRefused(), gone < 4)
	}
	for _, s := range []*api.Sheet{&all.First, &all.Second} {
		far := span(-api.ImagePlace, api.ImagePlace)
		s.Steps = [2]api.Step{{X: far, Y: far}, {X: far, Y: far}}
		s.Fades = [2]api.Span{span(0, 1000), span(0, 1000)}
		s.Flaws = 9
	}
	all.Gone = 1
	same(t, "images that can be of each star", count(t, all), 362880)
}
