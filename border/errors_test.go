package border_test

import (
	"math"
	"reflect"
	"slices"
	"testing"

	"zoneworks/api"
	"zoneworks/border"
)

// nothing is told with an error.
func nothing(stars int, errors [4]api.Errno) told {
	return told{pairs: make([]two, stars), joining: []int{}, errors: errors}
}

// refused fails unless each function refuses a border with ErrArg, whatever else is wrong, and tells nothing (R1, R2).
func refused(t *testing.T, name string, b api.Border) {
	t.Helper()
	for _, n := range [][4]int{{}, {-1, 0, 0, 0}, {0, 99, 0, 0}, {0, 0, 99, 0}, {0, 0, 0, math.MinInt}, {math.MinInt, math.MaxInt, math.MinInt, math.MaxInt}} {
		is, e := border.Same(b, n[0], n[1], n[2], n[3])
		same(t, "Same, "+name, is, false)
		same(t, "Same, "+name, e, api.ErrArg)
		many, e := border.Possible(b, n[2], n[3])
		same(t, "Possible, "+name, many, 0)
		same(t, "Possible, "+name, e, api.ErrArg)
		surely, can, e := border.Pairs(b, n[0])
		same(t, "Pairs, "+name, two{surely, can}, two{})
		same(t, "Pairs, "+name, e, api.ErrArg)
	}
	east, north, e := border.Shift(b)
	same(t, "Shift, "+name, [2]api.Span{east, north}, [2]api.Span{})
	same(t, "Shift, "+name, e, api.ErrArg)
	first, second, e := border.Alone(b)
	same(t, "Alone, "+name, two{first, second}, two{})
	same(t, "Alone, "+name, e, api.ErrArg)
	atEast, atNorth, joining, e := border.Best(b)
	same(t, "Best, "+name, two{atEast, atNorth}, two{})
	same(t, "Best, "+name, len(joining), 0)
	same(t, "Best, "+name, e, api.ErrArg)
	first, second, e = border.Clash(b)
	same(t, "Clash, "+name, two{first, second}, two{})
	same(t, "Clash, "+name, e, api.ErrArg)
}

// taken fails unless all functions take a border.
func taken(t *testing.T, name string, b api.Border) {
	t.Helper()
	x := tellAll(b)
	is, not := [4]api.Errno{api.OK, api.OK, api.OK, api.ErrNone}, [4]api.Errno{api.ErrNone, api.ErrNone, api.ErrNone, api.OK}
	if x.errors != is && x.errors != not {
		t.Error(name, x.errors)
	}
	count(t, b, two{b.East.Lo, b.North.Hi})
	for first := range b.First {
		for second := range b.Second {
			canBeSame(t, b, first, second, two{b.East.Hi, b.North.Lo})
		}
	}
}

// badSpans are not valid, or not from lo to hi.
func badSpans(lo, hi int) []api.Span {
	return []api.Span{
		span(lo+1, lo), span(hi, hi-1), span(hi, lo), span(lo-1, lo), span(lo-1, hi), span(hi, hi+1), span(lo, hi+1),
		span(lo-1, lo-1), span(hi+1, hi+1), span(math.MinInt, math.MaxInt), span(math.MaxInt, math.MinInt), span(math.MinInt, 0), span(0, math.MaxInt),
	}
}

// goodSpans are valid, and from lo to hi.
func goodSpans(lo, hi int) []api.Span {
	return []api.Span{span(lo, hi), only(lo), only(hi), span((lo+hi)/2, hi), span(lo, (lo+hi)/2)}
}

// Terms: the spans of a border, each of them at both of its bounds.
func TestValidSpans(t *testing.T) {
	const shift, sky, bright = 20, 1 << 20, 2000
	for name, x := range map[string]struct {
		lo, hi int
		of     func(b *api.Border) *api.Span
	}{
		"East":                          {-shift, shift, func(b *api.Border) *api.Span { return &b.East }},
		"North":                         {-shift, shift, func(b *api.Border) *api.Span { return &b.North }},
		"East of the first of First":    {-sky, sky, func(b *api.Border) *api.Span { return &b.First[0].East }},
		"North of the first of First":   {-sky, sky, func(b *api.Border) *api.Span { return &b.First[0].North }},
		"Bright of the first of First":  {0, bright, func(b *api.Border) *api.Span { return &b.First[0].Bright }},
		"East of the last of First":     {-sky, sky, func(b *api.Border) *api.Span { return &b.First[2].East }},
		"North of the last of First":    {-sky, sky, func(b *api.Border) *api.Span { return &b.First[2].North }},
		"Bright of the last of First":   {0, bright, func(b *api.Border) *api.Span { return &b.First[2].Bright }},
		"East of the first of Second":   {-sky, sky, func(b *api.Border) *api.Span { return &b.Second[0].East }},
		"North of the first of Second":  {-sky, sky, func(b *api.Border) *api.Span { return &b.Second[0].North }},
		"Bright of the first of Second": {0, bright, func(b *api.Border) *api.Span { return &b.Second[0].Bright }},
		"East of the last of Second":    {-sky, sky, func(b *api.Border) *api.Span { return &b.Second[2].East }},
		"North of the last of Second":   {-sky, sky, func(b *api.Border) *api.Span { return &b.Second[2].North }},
		"Bright of the last of Second":  {0, bright, func(b *api.Border) *api.Span { return &b.Second[2].Bright }},
	} {
		b := example()
		of := x.of(&b)
		for _, bad := range badSpans(x.lo, x.hi) {
			*of = bad
			refused(t, name, b)
		}
		for _, good := range goodSpans(x.lo, x.hi) {
			*of = good
			taken(t, name, b)
		}
	}
}

// Terms: how many stars each zone has, at most.
func TestValidMany(t *testing.T) {
	for _, n := range []int{7, 8, 64, 1000} {
		refused(t, "many stars of First", row(span(0, 0), make([]api.Edge, n), nil))
		refused(t, "many stars of Second", row(span(0, 0), nil, make([]api.Edge, n)))
		refused(t, "many stars", row(span(0, 0), make([]api.Edge, n), make([]api.Edge, n)))
	}
	for first := range 7 {
		for second := range 7 {
			taken(t, "some stars", row(span(0, 0), make([]api.Edge, first), make([]api.Edge, second)))
		}
	}
	taken(t, "nothing", api.Border{})
}

// Errors: ErrRange unless numbers of stars are such, and a shift is one; and nothing else is told (R2). It comes before
// ErrNone (R1), and no shift need be possible for Same and Possible.
func TestOutOfRange(t *testing.T) {
	for name, b := range map[string]api.Border{
		"example":   example(),
		"no shift":  example(first(2, true)),
		"no stars":  row(span(-1, 2), nil, nil),
		"one shift": row(span(7, 7), at(1), at(1, 2)),
		"all":       wide(6, 6),
	} {
		inside := two{b.East.Lo, b.North.Hi}
		for _, bad := range []int{-1, len(b.First), len(b.First) + 1, 64, math.MinInt, math.MaxInt} {
			is, e := border.Same(b, bad, 0, inside.a, inside.b)
			same(t, name, is, false)
			same(t, name, e, api.ErrRange)
			surely, can, e := border.Pairs(b, bad)
			same(t, name, two{surely, can}, two{})
			same(t, name, e, api.ErrRange)
		}
		for _, bad := range []int{-1, len(b.Second), len(b.Second) + 1, 64, math.MinInt, math.MaxInt} {
			is, e := border.Same(b, 0, bad, inside.a, inside.b)
			same(t, name, is, false)
			same(t, name, e, api.ErrRange)
		}
		for _, bad := range []two{
			{b.East.Lo - 1, inside.b}, {b.East.Hi + 1, inside.b}, {inside.a, b.North.Lo - 1}, {inside.a, b.North.Hi + 1},
			{math.MinInt, inside.b}, {math.MaxInt, inside.b}, {inside.a, math.MinInt}, {inside.a, math.MaxInt},
		} {
			is, e := border.Same(b, 0, 0, bad.a, bad.b)
			same(t, name, is, false)
			same(t, name, e, api.ErrRange)
			n, e := border.Possible(b, bad.a, bad.b)
			same(t, name, n, 0)
			same(t, name, e, api.ErrRange)
		}
		for _, good := range []two{{b.East.Lo, b.North.Lo}, {b.East.Hi, b.North.Lo}, {b.East.Lo, b.North.Hi}, {b.East.Hi, b.North.Hi}} {
			count(t, b, good)
			if len(b.First) > 0 && len(b.Second) > 0 {
				canBeSame(t, b, len(b.First)-1, len(b.Second)-1, good)
			}
		}
	}
}

// Errors: ErrNone if no shift is possible, and nothing else is told (R2); but Same, Possible and Clash tell what they do.
func TestNoneIsPossible(t *testing.T) {
	none := [4]api.Errno{api.ErrNone, api.ErrNone, api.ErrNone, api.OK}
	for name, x := range map[string]struct {
		b     api.Border
		clash two
	}{
		"example, one star more is Sure": {example(first(2, true)), two{4, 0}},
		"no stars of Second":             {row(span(-3, 3), surely(at(1)), nil), two{1, 0}},
		"no stars of First":              {row(span(-3, 3), nil, surely(at(1))), two{0, 1}},
		"different shifts":               {row(span(-3, 3), surely(at(5, 9)), at(4, 7)), two{3, 0}},
	} {
		want := nothing(len(x.b.First), none)
		want.pairs = append([]two(nil), want.pairs...)
		want.clash = x.clash
		if got := tellAll(x.b); !reflect.DeepEqual(got, want) {
			t.Errorf("%s: %+v, not %+v", name, got, want)
		}
		for _, s := range shifts(x.b) {
			same(t, name, count(t, x.b, s), 0)
		}
	}
	same(t, "Same", canBeSame(t, example(first(2, true)), 0, 0, two{2, -1}), true)
}

// P6.7: Clash has ErrNone if some shift is possible, and tells nothing (R2).
func TestNoClash(t *testing.T) {
	for _, b := range []api.Border{{}, example(), row(span(-3, 3), surely(at(5, 9)), at(7, 3)), wide(6, 6), row(span(0, 0), at(1, 2), at(3, 4))} {
		first, second, e := border.Clash(b)
		same(t, "Clash", two{first, second}, two{})
		same(t, "Clash", e, api.ErrNone)
	}
}

// R3: a nil list is an empty one.
func TestNilAndEmpty(t *testing.T) {
	empty := row(span(-1, 1), []api.Edge{}, []api.Edge{})
	none := row(span(-1, 1), nil, nil)
	if a, b := tellAll(empty), tellAll(none); !reflect.DeepEqual(a, b) {
		t.Error(a, b)
	}
	same(t, "Possible", count(t, empty, two{}), count(t, none, two{}))
}

// P6.8, R4, and the second half of P12: no argument is changed, not even what is behind its lists; what is asked again is
// told again; and no result is memory of another one.
func TestArgumentsStay(t *testing.T) {
	for _, b := range []api.Border{example(), example(first(2, true)), row(span(-3, 3), at(5, 9), at(4, 7)), wide(3, 4)} {
		more := star(only(77), only(88), only(99), true)
		b.First, b.Second = append(b.First, more)[:len(b.First)], append(b.Second, more)[:len(b.Second)]
		behindFirst, behindSecond := b.First[:len(b.First)+1], b.Second[:len(b.Second)+1]
		before, beforeFirst, beforeSecond := copyOf(b), slices.Clone(behindFirst), slices.Clone(behindSecond)
		a := tellAll(b)
		_, _, joining, _ := border.Best(b)
		for n := range joining {
			joining[n] = 99
		}
		_ = append(joining, 98, 97, 96)
		canBeSame(t, b, 0, 0, two{b.East.Lo, b.North.Lo})
		count(t, b, two{b.East.Lo, b.North.Lo})
		if again := tellAll(b); !reflect.DeepEqual(a, again) {
			t.Error(a, again)
		}
		if !reflect.DeepEqual(copyOf(b), before) || !slices.Equal(behindFirst, beforeFirst) || !slices.Equal(behindSecond, beforeSecond) {
			t.Error(b, before)
		}
	}
}

// P1: the largest borders end, whatever can be the same.
func TestLargest(t *testing.T) {
	for _, b := range []api.Border{wide(6, 6), wide(0, 6), wide(6, 0), wide(1, 1)} {
		taken(t, "as many as can be", b)
		b.First = surely(b.First)
		taken(t, "First is Sure", b)
		b.Second = surely(b.Second)
		taken(t, "all are Sure", b)
	}
	// With each shift other stars can be the same.
	b := wide(6, 6)
	for n := range 6 {
		b.First[n].East.Lo, b.Second[n].East.Hi = 6*n-18, 18-n
		b.First[n].North.Lo, b.Second[n].North.Hi = 18-n, 6*n
	}
	taken(t, "many kinds of shifts", b)
	b.First, b.Second = surely(b.First), surely(b.Second)
	taken(t, "many kinds of shifts, and all are Sure", b)
}
