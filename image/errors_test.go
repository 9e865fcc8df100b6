package image_test

import (
	"math"
	"reflect"
	"testing"

	"zoneworks/api"
	"zoneworks/image"
)

// refused fails unless each function refuses a sheet with ErrArg, whatever else is wrong, and tells nothing (R1, R2).
func refused(t *testing.T, name string, s api.Sheet) {
	t.Helper()
	for _, trail := range []api.Trail{{0, no, no}, {no, 0, 0}, {99, -5, 0}} {
		is, e := image.Fits(s, trail)
		same(t, "Fits, "+name, is, false)
		same(t, "Fits, "+name, e, api.ErrArg)
	}
	for _, i := range []int{0, -1, 99} {
		x, y, size, e := image.Where(s, i)
		same(t, "Where, "+name, place{x, y, size, e}, place{e: api.ErrArg})
	}
	want := told{fewest: []api.Trail{}, errors: [5]api.Errno{api.ErrArg, api.ErrArg, api.ErrArg, api.ErrArg, api.ErrArg}}
	got := tellAll(s)
	got.where = nil
	if !reflect.DeepEqual(got, want) {
		t.Errorf("%s: %+v, not %+v", name, got, want)
	}
}

// taken fails unless a sheet is valid.
func taken(t *testing.T, name string, s api.Sheet) {
	t.Helper()
	got := tellAll(s)
	for i, e := range got.errors {
		if e != api.OK && (i < 2 || e != api.ErrNone) {
			t.Error(name, got.errors)
		}
	}
	for _, p := range got.where {
		if p.e != api.OK && p.e != api.ErrNone {
			t.Error(name, p)
		}
	}
	if len(s.Spots) > 0 {
		if _, e := image.Fits(s, api.Trail{0, no, no}); e != api.OK {
			t.Error(name, e)
		}
	}
}

// badSpans are not valid, or not from lo to hi.
func badSpans(lo, hi int) []api.Span {
	return []api.Span{
		span(lo+1, lo), span(hi, hi-1), span(hi, lo), span(lo-1, lo), span(lo-1, hi), span(hi, hi+1), span(lo, hi+1),
		span(lo-1, lo-1), span(hi+1, hi+1), span(math.MinInt, math.MaxInt), span(math.MaxInt, math.MinInt), span(math.MinInt, 0), span(0, math.MaxInt),
	}
}

// goodSpans are valid, and from lo to hi.
func goodSpans(lo, hi int) []api.Span {
	return []api.Span{span(lo, hi), span(lo, lo), span(hi, hi), span((lo+hi)/2, hi), span(lo, (lo+hi)/2)}
}

// Terms: the spans of a sheet, each of them at both of its bounds.
func TestValidSpans(t *testing.T) {
	const place, size = 1 << 20, 1000
	for name, x := range map[string]struct {
		lo, hi int
		of     func(s *api.Sheet) *api.Span
	}{
		"X of the first step":     {-place, place, func(s *api.Sheet) *api.Span { return &s.Steps[0].X }},
		"Y of the first step":     {-place, place, func(s *api.Sheet) *api.Span { return &s.Steps[0].Y }},
		"X of the second step":    {-place, place, func(s *api.Sheet) *api.Span { return &s.Steps[1].X }},
		"Y of the second step":    {-place, place, func(s *api.Sheet) *api.Span { return &s.Steps[1].Y }},
		"first fade":              {0, size, func(s *api.Sheet) *api.Span { return &s.Fades[0] }},
		"second fade":             {0, size, func(s *api.Sheet) *api.Span { return &s.Fades[1] }},
		"X of the first image":    {0, place, func(s *api.Sheet) *api.Span { return &s.Spots[0].X }},
		"Y of the first image":    {0, place, func(s *api.Sheet) *api.Span { return &s.Spots[0].Y }},
		"size of the first image": {0, size, func(s *api.Sheet) *api.Span { return &s.Spots[0].Size }},
		"X of the last image":     {0, place, func(s *api.Sheet) *api.Span { return &s.Spots[5].X }},
		"Y of the last image":     {0, place, func(s *api.Sheet) *api.Span { return &s.Spots[5].Y }},
		"size of the last image":  {0, size, func(s *api.Sheet) *api.Span { return &s.Spots[5].Size }},
	} {
		s := example()
		of := x.of(&s)
		for _, bad := range badSpans(x.lo, x.hi) {
			*of = bad
			refused(t, name, s)
		}
		for _, good := range goodSpans(x.lo, x.hi) {
			*of = good
			taken(t, name, s)
		}
	}
}

// Terms: the numbers of a sheet, and how many images it has.
func TestValidNumbers(t *testing.T) {
	for _, n := range []int{-1, 1001, math.MinInt, math.MaxInt} {
		refused(t, "a limit", example(func(s *api.Sheet) { s.Limit = n }))
		refused(t, "a limit, without images", example(func(s *api.Sheet) { s.Limit = n; s.Spots = nil }))
	}
	for _, n := range []int{-1, 10, math.MinInt, math.MaxInt} {
		refused(t, "flaws", example(withFlaws(n)))
		refused(t, "flaws, without images", example(func(s *api.Sheet) { s.Flaws = n; s.Spots = nil }))
	}
	for _, n := range []int{0, 1, 999, 1000} {
		taken(t, "a limit", example(func(s *api.Sheet) { s.Limit = n }))
	}
	for n := range 10 {
		taken(t, "flaws", example(withFlaws(n)))
		taken(t, "images", exact(9, make([]api.Spot, n)...))
	}
	refused(t, "10 images", exact(9, make([]api.Spot, 10)...))
	refused(t, "100 images", exact(9, make([]api.Spot, 100)...))
	taken(t, "nothing", api.Sheet{})
}

// Errors: the images of a trail.
func TestTrailsThatAreNone(t *testing.T) {
	for _, s := range []api.Sheet{example(), example(withFlaws(0))} {
		for _, trail := range []api.Trail{
			{no, no, no}, {no, 1, 2}, {no, 1, no}, {-2, 1, 2}, {6, 1, 2}, {6, no, no}, {math.MinInt, 1, 2}, {math.MaxInt, 1, 2},
			{0, -2, 2}, {0, 6, 2}, {0, math.MinInt, 2}, {0, math.MaxInt, 2}, {0, 64, 2},
			{0, 1, -2}, {0, 1, 6}, {0, 1, math.MinInt}, {0, 1, math.MaxInt}, {0, 1, 64},
			{0, 0, 2}, {0, 1, 0}, {0, 1, 1}, {0, 0, no}, {0, no, 0}, {3, 3, 3},
		} {
			is, e := image.Fits(s, trail)
			if is || e != api.ErrRange {
				t.Error(trail, is, e)
			}
		}
	}
	if _, e := image.Fits(exact(0), api.Trail{0, no, no}); e != api.ErrRange {
		t.Error("no images:", e)
	}
}

// Errors, R1: ErrRange comes before ErrNone; and with an error nothing else is told (R2).
func TestOrderOfErrors(t *testing.T) {
	for _, s := range []api.Sheet{example(), example(withFlaws(0)), exact(0)} {
		for _, none := range []int{-1, len(s.Spots), len(s.Spots) + 1, 64, math.MinInt, math.MaxInt} {
			x, y, size, e := image.Where(s, none)
			same(t, "Where", place{x, y, size, e}, place{e: api.ErrRange})
		}
	}
	// Where there is no way, Fits, Count and Needs tell what they do all the same.
	s := example(withFlaws(0))
	fits(t, "no way", s, api.Trail{0, 1, 2}, true)
	fits(t, "no way", s, api.Trail{5, no, no}, false)
	got := tellAll(s)
	want := told{needs: 1, fewest: []api.Trail{}, errors: [5]api.Errno{api.OK, api.OK, api.ErrNone, api.ErrNone, api.ErrNone}}
	for range s.Spots {
		want.where = append(want.where, place{e: api.ErrNone})
	}
	if !reflect.DeepEqual(got, want) {
		t.Errorf("%+v, not %+v", got, want)
	}
}

// R3: a nil list is an empty one.
func TestNilAndEmpty(t *testing.T) {
	empty, none := exact(1), exact(1)
	empty.Spots, none.Spots = []api.Spot{}, nil
	if a, b := tellAll(empty), tellAll(none); !reflect.DeepEqual(a, b) {
		t.Error(a, b)
	}
}

// P2.7, R4, and the second half of P12: no argument is changed, no result is kept, and what is asked again is told again.
func TestArgumentsStay(t *testing.T) {
	r := random()
	for i := range 100 {
		s := example(withFlaws(i % 10))
		if i > 20 {
			s = small(r)
		}
		before := copyOf(s)
		first := tellAll(s)
		way, _ := image.Fewest(s)
		for i := range way {
			way[i] = api.Trail{7, 8, 9}
		}
		if len(s.Spots) > 0 {
			image.Fits(s, api.Trail{0, no, no})
		}
		if second := tellAll(s); !reflect.DeepEqual(first, second) {
			t.Fatal(first, second)
		}
		if !reflect.DeepEqual(copyOf(s), before) {
			t.Fatal(s, before)
		}
	}
}
