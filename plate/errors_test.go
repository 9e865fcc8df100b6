package plate_test

import (
	"math"
	"reflect"
	"testing"

	"zoneworks/api"
	"zoneworks/plate"
)

// places are of the sky, of no plate, or of nowhere.
func places() []int {
	return []int{0, 7, -1 << 20, 1 << 20, -1<<20 - 1, 1<<20 + 1, math.MinInt, math.MaxInt}
}

// refused fails unless each function refuses a plate with ErrArg, whatever else is wrong, and tells nothing (R1, R2).
func refused(t *testing.T, name string, p api.Plate) {
	t.Helper()
	failed(t, name, p, api.ErrArg, []int{0, -1, 99}, places())
}

// failed fails unless all functions return an error, with these numbers of stars and these places, and tell nothing.
// Clash and Drop do so only if the plate is not valid.
func failed(t *testing.T, name string, p api.Plate, want api.Errno, stars, sky []int) {
	t.Helper()
	none := func(what string, e api.Errno, spans ...api.Span) {
		t.Helper()
		same(t, what+", "+name, e, want)
		for _, s := range spans {
			same(t, what+", "+name, s, api.Span{})
		}
	}
	s, e := plate.Scale(p)
	none("Scale", e, s)
	a, b, e := plate.Zero(p)
	none("Zero", e, a, b)
	for _, n := range stars {
		a, b, e = plate.Star(p, n)
		none("Star", e, a, b)
		a, b, e = plate.Apart(p, n, stars[0])
		none("Apart", e, a, b)
		a, b, e = plate.Apart(p, stars[0], n)
		none("Apart", e, a, b)
	}
	for _, n := range sky {
		a, b, e = plate.Find(p, n, sky[0])
		none("Find", e, a, b)
		a, b, e = plate.Find(p, sky[0], n)
		none("Find", e, a, b)
	}
	star, wide, e := plate.Poor(p)
	none("Poor", e, only(star), only(wide))
	if want != api.ErrArg {
		return
	}
	for _, f := range []func(api.Plate) (int, api.Errno){plate.Clash, plate.Drop} {
		n, e := f(p)
		none("a set", e, only(n))
	}
}

// taken fails unless a plate is valid.
func taken(t *testing.T, name string, p api.Plate) {
	t.Helper()
	for _, f := range []func(api.Plate) (int, api.Errno){plate.Clash, plate.Drop} {
		if _, e := f(p); e != api.OK {
			t.Errorf("a set, %s: %v", name, e)
		}
	}
	if _, e := plate.Scale(p); e != api.OK && e != api.ErrClash {
		t.Errorf("Scale, %s: %v", name, e)
	}
	if _, _, e := plate.Zero(p); e != api.OK && e != api.ErrClash && e != api.ErrDoubt {
		t.Errorf("Zero, %s: %v", name, e)
	}
}

// badSpans are not valid, or not from lo to hi.
func badSpans(lo, hi int) []api.Span {
	return []api.Span{span(lo+1, lo), span(hi, hi-1), span(hi, lo), span(lo-1, lo), span(lo-1, hi), span(hi, hi+1), span(lo, hi+1), span(lo-1, lo-1), span(hi+1, hi+1), span(math.MinInt, math.MaxInt), span(math.MaxInt, math.MinInt), span(math.MinInt, lo), span(lo, math.MaxInt), only(math.MinInt), only(math.MaxInt)}
}

// goodSpans are valid, and from lo to hi.
func goodSpans(lo, hi int) []api.Span {
	return []api.Span{span(lo, hi), span(lo, lo), span(hi, hi), span((lo+hi)/2, hi), span(lo, (lo+hi)/2)}
}

// Terms: Scale is a valid span within its limits.
func TestValidScale(t *testing.T) {
	for _, s := range append(badSpans(1, 1000), span(0, 0), api.Span{}) {
		p := plateP()
		p.Scale = s
		refused(t, "a scale", p)
		p.Stars = nil
		refused(t, "a scale, without stars", p)
	}
	for _, s := range goodSpans(1, 1000) {
		p := plateP()
		p.Scale = s
		taken(t, "a scale", p)
		p.Stars = nil
		taken(t, "a scale, without stars", p)
		got, e := plate.Scale(p)
		same(t, "Scale without stars", got, s)
		same(t, "Scale without stars", e, api.OK)
	}
}

// Terms: which stars are valid. East and North are not looked at unless the star is known.
func TestValidStars(t *testing.T) {
	fields := []struct {
		name    string
		lo, hi  int
		ofKnown bool
		of      func(s *api.Star) *api.Span
	}{
		{"X", 0, 1 << 15, false, func(s *api.Star) *api.Span { return &s.X }},
		{"Y", 0, 1 << 15, false, func(s *api.Star) *api.Span { return &s.Y }},
		{"East", -1 << 20, 1 << 20, true, func(s *api.Star) *api.Span { return &s.East }},
		{"North", -1 << 20, 1 << 20, true, func(s *api.Star) *api.Span { return &s.North }},
	}
	for _, f := range fields {
		for star, s := range plateP().Stars {
			for _, bad := range badSpans(f.lo, f.hi) {
				p := plateP()
				*f.of(&p.Stars[star]) = bad
				if s.Known || !f.ofKnown {
					refused(t, f.name, p)
				} else if got, want := tellAll(p), tellAll(plateP()); !reflect.DeepEqual(got, want) {
					t.Errorf("%s of a star that is not known: %v, not %v", f.name, got, want)
				}
			}
			for _, good := range goodSpans(f.lo, f.hi) {
				p := plateP()
				*f.of(&p.Stars[star]) = good
				taken(t, f.name, p)
			}
		}
	}
}

// Terms: how many stars a plate has, at most.
func TestValidMany(t *testing.T) {
	for _, n := range []int{11, 12, 64, 100} {
		refused(t, "many stars", plain(make([]api.Star, n)...))
	}
	for _, n := range []int{0, 1, 9, 10} {
		p := plain(make([]api.Star, n)...)
		taken(t, "some stars", p)
		for i := range p.Stars {
			p.Stars[i].Known = true
		}
		taken(t, "some known stars", p)
		if n == 0 {
			continue
		}
		east, north, e := plate.Star(p, n-1)
		same(t, "the last star", both{east, north}, both{})
		same(t, "the last star", e, api.OK)
	}
}

// nones are no numbers of n stars.
func nones(n int) []int {
	return []int{-1, n, n + 1, 64, math.MinInt, math.MaxInt}
}

// doubtful are plates of which no star is known.
func doubtful() []api.Plate {
	return []api.Plate{plain(), scaled(1, 1000), plain(at(0, 0), star(1, 9, 1, 9)), without(plateQ(), 7)}
}

// Errors, R1: ErrRange before ErrClash, and before ErrDoubt; and with an error nothing else is told (R2).
func TestOutOfRange(t *testing.T) {
	for _, p := range append(doubtful(), plateP(), plateQ(), apart(10)) {
		for _, none := range nones(len(p.Stars)) {
			x, y, e := plate.Star(p, none)
			same(t, "Star", both{x, y}, both{})
			same(t, "Star", e, api.ErrRange)
			for _, other := range []int{0, len(p.Stars) - 1, none} {
				x, y, e = plate.Apart(p, none, other)
				same(t, "Apart", both{x, y}, both{})
				same(t, "Apart", e, api.ErrRange)
				x, y, e = plate.Apart(p, other, none)
				same(t, "Apart", both{x, y}, both{})
				same(t, "Apart", e, api.ErrRange)
			}
		}
		for _, none := range []int{-1<<20 - 1, 1<<20 + 1, math.MinInt, math.MaxInt} {
			for _, other := range []int{0, 6200, -1 << 20, 1 << 20, none} {
				x, y, e := plate.Find(p, none, other)
				same(t, "Find", both{x, y}, both{})
				same(t, "Find", e, api.ErrRange)
				x, y, e = plate.Find(p, other, none)
				same(t, "Find", both{x, y}, both{})
				same(t, "Find", e, api.ErrRange)
			}
		}
	}
}

// Errors, R1: ErrClash before ErrNone; it is told of all but Clash and Drop.
func TestNoTruth(t *testing.T) {
	sky := []int{0, 6200, -1 << 20, 1 << 20}
	failed(t, "Q", plateQ(), api.ErrClash, []int{0, 1, 2}, sky)
	failed(t, "10 stars", apart(10), api.ErrClash, []int{0, 5, 9}, sky)
	failed(t, "a gap", gap(52, 52), api.ErrClash, []int{0, 1}, sky)
	failed(t, "pairs", pairs(), api.ErrClash, []int{0, 1, 2, 3}, sky)
}

// Errors: ErrDoubt if no star is known, of Zero, Star, Find and Poor alone.
func TestNoKnownStar(t *testing.T) {
	for _, p := range doubtful() {
		x, y, e := plate.Zero(p)
		same(t, "Zero", both{x, y}, both{})
		same(t, "Zero", e, api.ErrDoubt)
		n, wide, e := plate.Poor(p)
		same(t, "Poor", [2]int{n, wide}, [2]int{})
		same(t, "Poor", e, api.ErrDoubt)
		for _, place := range []int{0, -1 << 20, 1 << 20} {
			x, y, e = plate.Find(p, place, place)
			same(t, "Find", both{x, y}, both{})
			same(t, "Find", e, api.ErrDoubt)
		}
		for n := range p.Stars {
			x, y, e = plate.Star(p, n)
			same(t, "Star", both{x, y}, both{})
			same(t, "Star", e, api.ErrDoubt)
			_, _, e = plate.Apart(p, n, 0)
			same(t, "Apart", e, api.OK)
		}
		got, e := plate.Scale(p)
		same(t, "Scale", got, p.Scale)
		same(t, "Scale", e, api.OK)
		taken(t, "no known star", p)
	}
}

// R3: a nil list is an empty one.
func TestNilAndEmpty(t *testing.T) {
	empty, none := plain(), plain()
	empty.Stars, none.Stars = []api.Star{}, nil
	if a, b := tellAll(empty), tellAll(none); !reflect.DeepEqual(a, b) {
		t.Error(a, b)
	}
}

// R4 and the second half of P12: no argument is changed, not even what is behind its stars, and what is asked again is
// told again.
func TestArgumentsStay(t *testing.T) {
	for _, p := range []api.Plate{plateP(), plateQ(), plain(), gap(46, 73), apart(10), without(plateP(), 7)} {
		p.Stars = append(p.Stars, fixed(1, 2, 3, 4))[:len(p.Stars)]
		behind := p.Stars[:len(p.Stars)+1]
		before, beforeBehind := copyOf(p), append([]api.Star{}, behind...)
		first := tellAll(p)
		a, b, e := plate.Find(p, 6200, 6900)
		if second := tellAll(p); !reflect.DeepEqual(first, second) {
			t.Error(first, second)
		}
		if c, d, again := plate.Find(p, 6200, 6900); c != a || d != b || again != e {
			t.Error(a, b, e, c, d, again)
		}
		if !reflect.DeepEqual(copyOf(p), before) || !reflect.DeepEqual(behind, beforeBehind) {
			t.Error(p, before)
		}
	}
}

// P1: the largest plates end.
func TestLargest(t *testing.T) {
	const far, end = 1 << 20, 1 << 15
	for i, s := range []api.Star{
		known(star(0, end, 0, end), -far, far, -far, far), fixed(end, end, far, far), fixed(0, 0, -far, -far), star(0, end, 0, end),
	} {
		p := scaled(1, 1000)
		for range 10 {
			p.Stars = append(p.Stars, s)
		}
		got := tellAll(p)
		same(t, "Clash", got.clash, 0)
		same(t, "Drop", got.drop, 0)
		same(t, "Scale", got.scale, span(1, 1000))
		same(t, "Poor", got.poor, 0)
		same(t, "the width", got.wide, []int{4 * far, 0, 0, 0}[i])
	}
	got := tellAll(apart(10))
	same(t, "Clash", got.clash, 3)
	same(t, "Drop", got.drop, 511)
}
