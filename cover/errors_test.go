package cover_test

import (
	"math"
	"reflect"
	"testing"

	"zoneworks/api"
	"zoneworks/cover"
)

// unsound are sets of plates, and numbers of places, that no field has, and some that it has.
func unsound() []int {
	return []int{0, 1, 3, -1, 4, 32, 33, 1 << 12, 1 << 40, math.MinInt, math.MaxInt}
}

// refusedPlace fails unless Served refuses a set or a place with an error, and tells nothing (R2).
func refusedPlace(t *testing.T, name string, f api.Field, plates, east, north int, want api.Errno) {
	t.Helper()
	is, e := cover.Served(f, plates, east, north)
	same(t, "Served, "+name, is, false)
	same(t, "Served, "+name, e, want)
}

// refusedSet fails unless Missing refuses a set with an error, and tells nothing (R2).
func refusedSet(t *testing.T, name string, f api.Field, plates int, want api.Errno) {
	t.Helper()
	east, north, places, e := cover.Missing(f, plates)
	same(t, "Missing, "+name, lack{east, north, places}, lack{})
	same(t, "Missing, "+name, e, want)
}

// refusedField fails unless each function that needs a list refuses a field with an error, and tells nothing (R2).
func refusedField(t *testing.T, name string, f api.Field, want api.Errno) {
	t.Helper()
	n, e := cover.Shortest(f)
	same(t, "Shortest, "+name, n, 0)
	same(t, "Shortest, "+name, e, want)
	n, e = cover.Lists(f)
	same(t, "Lists, "+name, n, 0)
	same(t, "Lists, "+name, e, want)
	n, e = cover.Needed(f)
	same(t, "Needed, "+name, n, 0)
	same(t, "Needed, "+name, e, want)
	places, e := cover.Apart(f)
	same(t, "Apart, "+name, len(places), 0)
	same(t, "Apart, "+name, e, want)
}

// refused fails unless each function refuses a field that is not valid, whatever else it is given (R1).
func refused(t *testing.T, name string, f api.Field) {
	t.Helper()
	n, e := cover.Useful(f)
	same(t, "Useful, "+name, n, 0)
	same(t, "Useful, "+name, e, api.ErrArg)
	for _, plates := range unsound() {
		for _, n := range unsound() {
			refusedPlace(t, name, f, plates, n, 0, api.ErrArg)
			refusedPlace(t, name, f, plates, 0, n, api.ErrArg)
		}
		refusedSet(t, name, f, plates, api.ErrArg)
	}
	refusedField(t, name, f, api.ErrArg)
}

// taken fails unless all functions take a field, whether or not there is a list.
func taken(t *testing.T, name string, f api.Field) {
	t.Helper()
	tell(t, f)
	if _, e := cover.Served(f, 0, f.East.Hi, f.North.Lo); e != api.OK {
		t.Error("Served,", name, e)
	}
	if _, _, _, e := cover.Missing(f, 0); e != api.OK {
		t.Error("Missing,", name, e)
	}
}

// Terms: the numbers of a field, each of them at both of its bounds.
func TestValidNumbers(t *testing.T) {
	for name, x := range map[string]struct {
		lo, hi int
		of     func(f *api.Field) *int
	}{
		"East of a plate, from":             {0, 1, func(f *api.Field) *int { return &f.Plates[0].East.Lo }},
		"East of a plate, to":               {1, 32, func(f *api.Field) *int { return &f.Plates[1].East.Hi }},
		"East of the last plate, from":      {0, 5, func(f *api.Field) *int { return &f.Plates[4].East.Lo }},
		"East of the last plate, to":        {3, 32, func(f *api.Field) *int { return &f.Plates[4].East.Hi }},
		"North of a plate, from":            {0, 2, func(f *api.Field) *int { return &f.Plates[0].North.Lo }},
		"North of a plate, to":              {0, 32, func(f *api.Field) *int { return &f.Plates[1].North.Hi }},
		"North of the last plate, from":     {0, 1, func(f *api.Field) *int { return &f.Plates[4].North.Lo }},
		"North of the last plate, to":       {0, 32, func(f *api.Field) *int { return &f.Plates[4].North.Hi }},
		"Day":                               {0, 65536, func(f *api.Field) *int { return &f.Plates[0].Day }},
		"Day of the last plate":             {0, 65536, func(f *api.Field) *int { return &f.Plates[4].Day }},
		"Day of a plate that is of no use":  {0, 65536, func(f *api.Field) *int { return &f.Plates[3].Day }},
		"Depth of a plate":                  {0, 100, func(f *api.Field) *int { return &f.Plates[2].Depth }},
		"Depth of the last plate":           {0, 100, func(f *api.Field) *int { return &f.Plates[4].Depth }},
		"Depth of one that is of no use":    {0, 100, func(f *api.Field) *int { return &f.Plates[3].Depth }},
		"East of one that is of no use":     {3, 32, func(f *api.Field) *int { f.Plates[3].East.Lo = 3; return &f.Plates[3].East.Hi }},
		"East of the field, from":           {0, 3, func(f *api.Field) *int { return &f.East.Lo }},
		"East of the field, to":             {2, 32, func(f *api.Field) *int { f.East.Lo = 2; return &f.East.Hi }},
		"North of the field, from":          {0, 7, func(f *api.Field) *int { f.North.Hi = 7; return &f.North.Lo }},
		"North of the field, to":            {0, 32, func(f *api.Field) *int { return &f.North.Hi }},
		"Days, from":                        {0, 300, func(f *api.Field) *int { return &f.Days.Lo }},
		"Days, to":                          {100, 65536, func(f *api.Field) *int { return &f.Days.Hi }},
		"Depth":                             {0, 100, func(f *api.Field) *int { return &f.Depth }},
		"Times":                             {1, 4, func(f *api.Field) *int { return &f.Times }},
		"Gap":                               {0, 65536, func(f *api.Field) *int { return &f.Gap }},
		"Gap of what is wanted four times":  {0, 65536, func(f *api.Field) *int { f.Times = 4; return &f.Gap }},
		"Times of what is as far as can be": {1, 4, func(f *api.Field) *int { f.Gap = 65536; return &f.Times }},
	} {
		f := example()
		of := x.of(&f)
		for _, bad := range []int{x.lo - 1, x.hi + 1, math.MinInt, math.MaxInt} {
			*of = bad
			refused(t, name, f)
		}
		for _, good := range []int{x.lo, x.hi, (x.lo + x.hi) / 2} {
			*of = good
			taken(t, name, f)
		}
	}
}

// Terms: how many plates there can be, and that each of them has to be valid.
func TestValidPlates(t *testing.T) {
	for plates := range 16 {
		f := square(1, 1, make([]api.Sky, plates)...)
		if plates > 12 {
			refused(t, "too many plates", f)
			continue
		}
		taken(t, "plates", f)
		for n := range f.Plates {
			f.Plates[n].Depth = 101
			refused(t, "one of several plates", f)
			f.Plates[n].Depth = 0
		}
	}
	refused(t, "far too many plates", square(1, 1, make([]api.Sky, 5000)...))
	refused(t, "nothing", api.Field{})
	taken(t, "nothing but how many times", api.Field{Times: 1})
}

// ranges are fields that have a list, and that have none.
func ranges() map[string]api.Field {
	return map[string]api.Field{
		"example":       example(),
		"no list":       example(wanting(4, 0)),
		"no plates":     {Times: 1},
		"one":           dated(1, 0, 5),
		"twelve":        square(2, 2, make([]api.Sky, 12)...),
		"elsewhere":     {Plates: make([]api.Sky, 2), East: span(4, 6), North: span(9, 9), Times: 1},
		"to the end":    {Plates: make([]api.Sky, 3), East: span(30, 32), North: span(32, 32), Times: 2},
		"all there are": square(33, 33, plate(span(0, 32), span(0, 32), 5, 5)),
	}
}

// Errors: ErrRange unless a set has no other bits than those of plates; it comes before ErrNone.
func TestNoPlates(t *testing.T) {
	for name, f := range ranges() {
		all := 1<<len(f.Plates) - 1
		for _, bad := range []int{-1, all + 1, 2 * (all + 1), all + 2, 2*all + 1 | 1<<12, -all - 1, 1 << 12, 1 << 31, 1<<40 | all, math.MinInt, math.MinInt | all, math.MaxInt} {
			refusedSet(t, name, f, bad, api.ErrRange)
			for _, p := range [][2]int{{f.East.Lo, f.North.Lo}, {f.East.Hi, f.North.Hi}, {-1, f.North.Lo}} {
				refusedPlace(t, name, f, bad, p[0], p[1], api.ErrRange)
			}
		}
		for good := range all + 1 {
			_, e := cover.Served(f, good, f.East.Lo, f.North.Lo)
			same(t, name, e, api.OK)
			if _, _, _, e := cover.Missing(f, good); e != api.OK && e != api.ErrNone {
				t.Error(name, good, e)
			}
		}
	}
}

// Errors: ErrRange unless a place is one of the field, also if a plate has it.
func TestNoPlace(t *testing.T) {
	for name, f := range ranges() {
		for plates := range 1 << len(f.Plates) {
			for _, bad := range []int{f.East.Lo - 1, f.East.Hi + 1, -1, 33, math.MinInt, math.MaxInt} {
				refusedPlace(t, name, f, plates, bad, f.North.Lo, api.ErrRange)
				refusedPlace(t, name, f, plates, bad, f.North.Hi, api.ErrRange)
			}
			for _, bad := range []int{f.North.Lo - 1, f.North.Hi + 1, -1, 33, math.MinInt, math.MaxInt} {
				refusedPlace(t, name, f, plates, f.East.Lo, bad, api.ErrRange)
				refusedPlace(t, name, f, plates, f.East.Hi, bad, api.ErrRange)
			}
		}
		for _, p := range placesOf(f) {
			_, e := cover.Served(f, 0, p[0], p[1])
			same(t, name, e, api.OK)
		}
	}
}

// P10.4 to P10.7: without a list there is nothing to be told.
func TestNoList(t *testing.T) {
	for name, f := range map[string]api.Field{
		"no plates":                 {Times: 1},
		"none that is of use":       example(func(f *api.Field) { f.Depth = 21 }),
		"a place that none has":     example(func(f *api.Field) { f.North.Hi = 1 }),
		"the first place":           row(3, only(1), span(1, 2)),
		"the last place":            row(3, span(0, 1), only(1)),
		"too few plates":            example(wanting(2, 0)),
		"too few plates by far":     dated(4, 0, 5),
		"plates of the same day":    dated(2, 1, 5, 5, 5),
		"plates of near days":       dated(3, 6, 10, 15, 18, 20),
		"plates that are far apart": dated(2, api.MaxDay, 1, api.MaxDay),
	} {
		refusedField(t, name, f, api.ErrNone)
		// Nor are all plates together a list then.
		if _, _, _, e := cover.Missing(f, 1<<len(f.Plates)-1); e != api.OK {
			t.Error(name, e)
		}
	}
}

// R3: a nil list is an empty one.
func TestNilAndEmpty(t *testing.T) {
	for _, f := range []api.Field{{Times: 1}, {Times: 4, East: span(0, 1), Gap: 7}} {
		other := f
		other.Plates = []api.Sky{}
		if a, b := tellAll(t, f), tellAll(t, other); !reflect.DeepEqual(a, b) || a.e != api.ErrNone {
			t.Error(a, b)
		}
	}
}

// R4, P10.8: no function changes the field, or writes behind its plates; and asked again, it tells the same.
func TestFieldIsKept(t *testing.T) {
	r := random()
	for range 100 {
		f := anyField(r, pick(r, 0, 6), 4)
		before, behind := copyOf(f), plate(only(7), only(7), 7, 7)
		f.Plates = append(f.Plates, behind)[:len(f.Plates)]
		a, b := tellAll(t, f), tellAll(t, f)
		if !reflect.DeepEqual(a, b) || !reflect.DeepEqual(append([]api.Sky{}, f.Plates...), append([]api.Sky{}, before.Plates...)) {
			t.Error(f, before, a, b)
		}
		same(t, "behind Plates", f.Plates[:len(f.Plates)+1][len(f.Plates)], behind)
	}
}

// P10.8: places are told in new memory; who changes them changes nothing else.
func TestPlacesAreNew(t *testing.T) {
	f := row(3, only(0), only(1), only(2))
	a, _ := cover.Apart(f)
	b, _ := cover.Apart(f)
	a[0], a[2] = [2]int{7, 7}, [2]int{8, 8}
	c, _ := cover.Apart(f)
	if !reflect.DeepEqual(b, east(0, 1, 2)) || !reflect.DeepEqual(c, b) {
		t.Error(a, b, c)
	}
}

// P1: the largest fields end, with as many places that ask for something else as can be.
func TestLargest(t *testing.T) {
	f := square(33, 33)
	f.Times, f.Gap = 4, 1
	for n := range 6 {
		across, along := span(0, 32), span(2*n, 32-2*n)
		f.Plates = append(f.Plates, plate(across, along, 3*n, 100), plate(along, across, 3*n+1, 100))
	}
	x := tell(t, f)
	same(t, "the largest field", x.e, api.ErrNone)
	for n := range f.Plates {
		f.Plates[n].Day = n
		if n < 4 {
			f.Plates[n].East, f.Plates[n].North = span(0, 32), span(0, 32)
		}
	}
	isTold(t, "the largest field, with a list", f, whole{15, 1, 15, east(0)})
	f.Plates[0].East.Hi, f.Plates[1].East.Lo = 31, 1
	isTold(t, "the largest field, without a list", f, whole{})
	f.Times = 1
	isTold(t, "the largest field, once", f, whole{4, 2, 0, east(0)})
}
