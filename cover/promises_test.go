package cover_test

import (
	"slices"
	"testing"

	"zoneworks/api"
	"zoneworks/cover"
)

// Examples: all that the chapter's table, and the document's own examples, tell of the field.
func TestExample(t *testing.T) {
	f := example()
	n, e := cover.Useful(f)
	same(t, "Useful", n, set(0, 1, 2, 4))
	same(t, "Useful", e, api.OK)
	for _, x := range []struct {
		times, gap int
		want       bool
	}{{1, 0, true}, {2, 30, true}, {2, 31, false}} {
		is, e := cover.Served(example(wanting(x.times, x.gap)), set(0, 1), 1, 0)
		same(t, "Served", is, x.want)
		same(t, "Served", e, api.OK)
	}
	east, north, places, e := cover.Missing(f, set(0, 1))
	same(t, "Missing", lack{east, north, places}, lack{3, 0, 1})
	same(t, "Missing", e, api.OK)
	isTold(t, "the example", f, whole{set(0, 2), 1, set(0), [][2]int{{0, 0}, {2, 0}}})
	isTold(t, "the example with the plate 3", example(func(f *api.Field) { f.Days.Lo = 99 }), whole{set(3), 1, 0, [][2]int{{0, 0}}})
	isTold(t, "the example twice", example(wanting(2, 0)), whole{})
}

// wide is a field within the sky, with one plate that is of use; it is changed by tests.
func wide(change func(f *api.Field, p *api.Sky)) api.Field {
	f := api.Field{
		Plates: []api.Sky{plate(span(12, 14), span(6, 8), 150, 60)},
		East:   span(10, 20), North: span(5, 15), Days: span(100, 200), Depth: 50, Times: 1,
	}
	change(&f, &f.Plates[0])
	return f
}

// P10.1: a plate is of use if its day, its depth and some of its places are asked for.
func TestUseful(t *testing.T) {
	for name, x := range map[string]struct {
		change func(f *api.Field, p *api.Sky)
		want   bool
	}{
		"within the field":             {func(f *api.Field, p *api.Sky) {}, true},
		"the first day":                {func(f *api.Field, p *api.Sky) { p.Day = 100 }, true},
		"the last day":                 {func(f *api.Field, p *api.Sky) { p.Day = 200 }, true},
		"a day too early":              {func(f *api.Field, p *api.Sky) { p.Day = 99 }, false},
		"a day too late":               {func(f *api.Field, p *api.Sky) { p.Day = 201 }, false},
		"the only day":                 {func(f *api.Field, p *api.Sky) { f.Days = only(150) }, true},
		"the day 0":                    {func(f *api.Field, p *api.Sky) { p.Day = 0 }, false},
		"the day 0, asked for":         {func(f *api.Field, p *api.Sky) { p.Day, f.Days = 0, only(0) }, true},
		"the last day there is":        {func(f *api.Field, p *api.Sky) { p.Day, f.Days = api.MaxDay, only(api.MaxDay) }, true},
		"as deep":                      {func(f *api.Field, p *api.Sky) { p.Depth = 50 }, true},
		"not as deep":                  {func(f *api.Field, p *api.Sky) { p.Depth = 49 }, false},
		"the deepest":                  {func(f *api.Field, p *api.Sky) { p.Depth, f.Depth = 100, 100 }, true},
		"not the deepest":              {func(f *api.Field, p *api.Sky) { p.Depth, f.Depth = 99, 100 }, false},
		"not deep":                     {func(f *api.Field, p *api.Sky) { p.Depth, f.Depth = 0, 0 }, true},
		"all of the field":             {func(f *api.Field, p *api.Sky) { p.East, p.North = span(0, 32), span(0, 32) }, true},
		"the same as the field":        {func(f *api.Field, p *api.Sky) { p.East, p.North = f.East, f.North }, true},
		"across it":                    {func(f *api.Field, p *api.Sky) { p.East = span(0, 32) }, true},
		"to its west end":              {func(f *api.Field, p *api.Sky) { p.East = span(0, 10) }, true},
		"too far west":                 {func(f *api.Field, p *api.Sky) { p.East = span(0, 9) }, false},
		"from its east end":            {func(f *api.Field, p *api.Sky) { p.East = span(20, 32) }, true},
		"too far east":                 {func(f *api.Field, p *api.Sky) { p.East = span(21, 32) }, false},
		"to its south end":             {func(f *api.Field, p *api.Sky) { p.North = span(0, 5) }, true},
		"too far south":                {func(f *api.Field, p *api.Sky) { p.North = span(0, 4) }, false},
		"from its north end":           {func(f *api.Field, p *api.Sky) { p.North = span(15, 32) }, true},
		"too far north":                {func(f *api.Field, p *api.Sky) { p.North = span(16, 32) }, false},
		"only its corner":              {func(f *api.Field, p *api.Sky) { p.East, p.North = only(20), only(5) }, true},
		"its east, but not its north":  {func(f *api.Field, p *api.Sky) { p.East, p.North = f.East, only(4) }, false},
		"its north, but not its east":  {func(f *api.Field, p *api.Sky) { p.East, p.North = only(21), f.North }, false},
		"its place, but another depth": {func(f *api.Field, p *api.Sky) { p.Depth, p.Day = 0, 100 }, false},
		"whatever else is asked":       {func(f *api.Field, p *api.Sky) { f.Times, f.Gap = 4, api.MaxDay }, true},
	} {
		f := wide(x.change)
		n, e := cover.Useful(f)
		same(t, name, n == 1, x.want)
		same(t, name, n == 0, !x.want)
		same(t, name, e, api.OK)
		// A plate that is of no use serves no place, not even its own (Terms).
		for _, p := range placesOf(f) {
			is, e := cover.Served(wantedOnce(f), 1, p[0], p[1])
			same(t, name, is, x.want && holds(f.Plates[0].East, p[0]) && holds(f.Plates[0].North, p[1]))
			same(t, name, e, api.OK)
		}
	}
	twelve := square(1, 1, make([]api.Sky, 12)...)
	for _, x := range []struct {
		f    api.Field
		want int
	}{
		{api.Field{Times: 1}, 0}, {twelve, 1<<12 - 1}, {example(), set(0, 1, 2, 4)},
		{example(func(f *api.Field) { f.Depth = 12 }), set(0, 1)}, {example(func(f *api.Field) { f.North = span(1, 2) }), set(0, 4)},
	} {
		n, e := cover.Useful(x.f)
		same(t, "Useful", n, x.want)
		same(t, "Useful", e, api.OK)
	}
}

// wantedOnce returns a field whose places are wanted once.
func wantedOnce(f api.Field) api.Field {
	f.Times, f.Gap = 1, 0
	return f
}

// P10.2: as many plates of different times as are wanted have the place.
func TestServed(t *testing.T) {
	four := []int{10, 15, 18, 20}
	for _, x := range []struct {
		name   string
		f      api.Field
		plates int
		want   bool
	}{
		{"no plate", dated(1, 0), 0, false},
		{"one plate", dated(1, 0, 5), 1, true},
		{"one plate, and no set", dated(1, 0, 5), 0, false},
		{"one plate, far apart", dated(1, api.MaxDay, 5), 1, true},
		{"one plate, twice", dated(2, 0, 5), 1, false},
		{"the other plate", dated(1, 0, 5, 6), set(1), true},
		{"two of the same day", dated(2, 0, 5, 5), set(0, 1), true},
		{"two of the same day, a day apart", dated(2, 1, 5, 5), set(0, 1), false},
		{"two, a day apart", dated(2, 1, 5, 6), set(0, 1), true},
		{"two, a day apart, the later one first", dated(2, 1, 6, 5), set(0, 1), true},
		{"two, two days apart", dated(2, 2, 6, 5), set(0, 1), false},
		{"two, one of them in the set", dated(2, 0, 5, 6), set(1), false},
		{"two, thrice", dated(3, 0, 5, 6), set(0, 1), false},
		{"the first and the last day", dated(2, api.MaxDay, 0, api.MaxDay), set(0, 1), true},
		{"the first and the last day but one", dated(2, api.MaxDay, 0, api.MaxDay-1), set(0, 1), false},
		{"the second day and the last one", dated(2, api.MaxDay, 1, api.MaxDay), set(0, 1), false},
		{"one between", dated(2, 10, 100, 109, 118), set(0, 1, 2), true},
		{"one between, and no first one", dated(2, 10, 100, 109, 118), set(1, 2), false},
		{"one between, and no last one", dated(2, 10, 100, 109, 118), set(0, 1), false},
		{"none between", dated(2, 10, 100, 109, 118), set(0, 2), true},
		{"one between, told first", dated(2, 10, 109, 100, 118), set(0, 1, 2), true},
		{"one between, told last", dated(2, 10, 118, 100, 109), set(0, 1, 2), true},
		{"three of four", dated(3, 5, four...), 15, true},
		{"three of four, without the second one", dated(3, 5, four...), set(0, 2, 3), false},
		{"three of four, without the third one", dated(3, 5, four...), set(0, 1, 3), true},
		{"three of four, further apart", dated(3, 6, four...), 15, false},
		{"two of four, further apart", dated(2, 6, four...), 15, true},
		{"two of four, as far apart as can be", dated(2, 10, four...), 15, true},
		{"two of four, too far apart", dated(2, 11, four...), 15, false},
		{"three of the same day", dated(3, 0, 9, 9, 9), 7, true},
		{"four of the same day, three of them in the set", dated(4, 0, 9, 9, 9, 9), 7, false},
		{"four of the same day", dated(4, 0, 9, 9, 9, 9), 15, true},
		{"four in pairs", dated(4, 1, 9, 9, 10, 10), 15, false},
		{"two in pairs", dated(2, 1, 9, 9, 10, 10), 15, true},
		{"each two, not only those that follow one another", dated(3, 4, 0, 3, 6), 7, false},
		{"two of those", dated(2, 4, 0, 3, 6), 7, true},
		{"four, the last ones first", dated(4, 7, 21, 14, 7, 0), 15, true},
		{"four, the last ones first, further apart", dated(4, 8, 21, 14, 7, 0), 15, false},
		{"four out of twelve", dated(4, 30, 55, 11, 99, 0, 44, 88, 22, 66, 33, 77, 13, 5), 1<<12 - 1, true},
		{"four out of twelve, further apart", dated(4, 34, 55, 11, 99, 0, 44, 88, 22, 66, 33, 77, 13, 5), 1<<12 - 1, false},
	} {
		is, e := cover.Served(x.f, x.plates, 0, 0)
		same(t, x.name, is, x.want)
		same(t, x.name, e, api.OK)
		_, e = cover.Shortest(x.f)
		if x.plates == 1<<len(x.f.Plates)-1 {
			same(t, x.name, e == api.OK, x.want)
		}
	}
}

// four is a field of four places in three rows; how many plates have each of them, from the southern row on, is known.
func four() (f api.Field, many []string) {
	f = square(4, 3, plate(span(0, 2), span(0, 1), 5, 5), plate(span(1, 3), span(1, 2), 9, 5), plate(only(0), only(0), 9, 5), plate(only(1), span(0, 2), 13, 5))
	return f, []string{"2210", "1321", "0211"}
}

// P10.2: each place by itself, whatever serves the others.
func TestServedPlaces(t *testing.T) {
	f, many := four()
	for f.Times = range api.CoverTimes + 1 {
		for north, line := range many {
			for east, digit := range line {
				if f.Times == 0 {
					continue
				}
				is, e := cover.Served(f, 15, east, north)
				same(t, "Served", is, int(digit-'0') >= f.Times)
				same(t, "Served", e, api.OK)
			}
		}
	}
}

// P10.3: the first place that is not served, by its east before its north, and how many are not.
func TestMissing(t *testing.T) {
	twice := func(times, gap int) api.Field {
		f, _ := four()
		f.Times, f.Gap = times, gap
		return f
	}
	for _, x := range []struct {
		name   string
		f      api.Field
		plates int
		want   lack
	}{
		{"no set", twice(1, 0), 0, lack{0, 0, 12}},
		{"all", twice(1, 0), 15, lack{0, 2, 2}},
		{"all but the first one", twice(1, 0), set(1, 2, 3), lack{0, 1, 4}},
		{"the first one", twice(1, 0), set(0), lack{0, 2, 6}},
		{"the second one", twice(1, 0), set(1), lack{0, 0, 6}},
		{"the first two", twice(1, 0), set(0, 1), lack{0, 2, 2}},
		{"the last one", twice(1, 0), set(3), lack{0, 0, 9}},
		{"all, twice", twice(2, 0), 15, lack{0, 1, 7}},
		{"all, twice, far apart", twice(2, 4), 15, lack{0, 1, 7}},
		{"all, twice, farther apart", twice(2, 5), 15, lack{0, 0, 10}},
		{"all, twice, too far apart", twice(2, 9), 15, lack{0, 0, 12}},
		{"the first and the third one, twice", twice(2, 0), set(0, 2), lack{0, 1, 11}},
		{"all, thrice", twice(3, 0), 15, lack{0, 0, 11}},
		{"all, four times", twice(4, 0), 15, lack{0, 0, 12}},
		{"a list", example(), set(0, 2), lack{}},
		{"a list, and what is of no use", example(), set(0, 2, 3), lack{}},
		{"all plates", example(), 31, lack{}},
		{"what is of no use", example(), set(3), lack{0, 0, 4}},
		{"what is of use for the last place", example(), set(4), lack{0, 0, 3}},
		{"not the first place", example(), set(0, 4), lack{2, 0, 1}},
		{"without plates", api.Field{Times: 1}, 0, lack{0, 0, 1}},
		{"without plates, elsewhere", api.Field{Times: 1, East: span(3, 5), North: span(7, 8)}, 0, lack{3, 7, 6}},
		{"as much as there is", api.Field{Times: 1, East: span(0, 32), North: span(0, 32)}, 0, lack{0, 0, 33 * 33}},
		{"all but a corner", square(33, 33, plate(span(0, 31), span(0, 32), 0, 0), plate(span(0, 32), span(0, 31), 0, 0)), 3, lack{32, 32, 1}},
		{"all but the first row", square(33, 33, plate(span(0, 32), span(1, 32), 0, 0)), 1, lack{0, 0, 33}},
		{"all but the last row", square(33, 33, plate(span(0, 32), span(0, 31), 0, 0)), 1, lack{0, 32, 33}},
		{"all but a place within", square(5, 5, plate(span(0, 1), span(0, 4), 0, 0), plate(span(3, 4), span(0, 4), 0, 0), plate(span(0, 4), span(0, 2), 0, 0), plate(span(0, 4), only(4), 0, 0)), 15, lack{2, 3, 1}},
	} {
		east, north, places, e := cover.Missing(x.f, x.plates)
		same(t, x.name, lack{east, north, places}, x.want)
		same(t, x.name, e == api.ErrNone, x.want.places == 0)
		same(t, x.name, e == api.OK, x.want.places != 0)
	}
}

// whole is what is told of a field as a whole; all of it is zero if there is no list.
type whole struct {
	shortest, lists, needed int
	apart                   [][2]int
}

// isTold fails unless what is wanted is told of a field.
func isTold(t *testing.T, name string, f api.Field, want whole) {
	t.Helper()
	x := tell(t, f)
	same(t, name+", Shortest", x.shortest, want.shortest)
	same(t, name+", Lists", x.lists, want.lists)
	same(t, name+", Needed", x.needed, want.needed)
	if !slices.Equal(x.apart, want.apart) {
		t.Errorf("%s, Apart: %v, not %v", name, x.apart, want.apart)
	}
	same(t, name+", whether there is a list", x.e == api.OK, want.lists > 0)
}

// east returns places in the first row.
func east(numbers ...int) [][2]int {
	var places [][2]int
	for _, n := range numbers {
		places = append(places, [2]int{n, 0})
	}
	return places
}

// hook is a field whose first place would keep two others from being apart, which each share a plate with it.
func hook() api.Field {
	return square(2, 2, plate(span(0, 1), only(0), 5, 5), plate(only(0), span(0, 1), 5, 5), plate(only(1), only(1), 5, 5))
}

// P10.4 to P10.7: the first list, how many are as short, what is needed, and places that are apart.
func TestLists(t *testing.T) {
	first := east(0)
	turned := square(2, 2, plate(only(0), span(0, 1), 5, 5), plate(span(0, 1), only(0), 5, 5), plate(only(1), span(0, 1), 5, 5), plate(span(0, 1), only(1), 5, 5))
	wheel := square(3, 3, plate(span(0, 1), only(0), 5, 5), plate(only(2), span(0, 1), 5, 5), plate(span(1, 2), only(2), 5, 5), plate(only(0), span(1, 2), 5, 5), plate(only(1), only(1), 5, 5))
	twelve := dated(4, 30, 55, 11, 99, 0, 44, 88, 22, 66, 33, 77, 13, 5)
	mixed := row(3, span(0, 1), span(1, 2), span(0, 2), only(1))
	mixed.Times = 2
	for _, x := range []struct {
		name string
		f    api.Field
		want whole
	}{
		{"without plates", api.Field{Times: 1}, whole{}},
		{"one plate", dated(1, 0, 5), whole{1, 1, 1, first}},
		{"one plate, too few times", dated(2, 0, 5), whole{}},
		{"one of two", dated(1, 0, 5, 5), whole{1, 2, 0, first}},
		{"one of twelve", dated(1, 9, 5, 5, 5, 5, 5, 5, 5, 5, 5, 5, 5, 5), whole{1, 12, 0, first}},
		{"four of twelve", dated(4, 0, 5, 5, 5, 5, 5, 5, 5, 5, 5, 5, 5, 5), whole{15, 495, 0, first}},
		{"two of four, all far apart", dated(2, 1, 4, 1, 3, 2), whole{3, 6, 0, first}},
		{"two of four, some farther apart", dated(2, 2, 4, 1, 3, 2), whole{3, 3, 0, first}},
		{"two of four, two of them farthest apart", dated(2, 3, 4, 1, 3, 2), whole{3, 1, 3, first}},
		{"two of three, one of them with each of the others", dated(2, 5, 1, 3, 8), whole{5, 2, 4, first}},
		{"four of twelve, far apart", twelve, whole{set(2, 3, 7, 8), 1, set(2, 3, 7, 8), first}},
		{"the smallest one is not the least number", row(3, span(0, 1), span(1, 2), span(0, 2)), whole{4, 1, 0, first}},
		{"the least number of two", row(3, span(0, 1), span(1, 2), only(0), only(2)), whole{3, 3, 0, east(0, 2)}},
		{"the least number is not the one with the first plate", row(4, span(0, 1), span(1, 2), span(0, 2), only(3), span(2, 3)), whole{set(2, 3), 3, 0, east(0, 3)}},
		{"the only ones", row(3, only(0), only(1), only(2)), whole{7, 1, 7, east(0, 1, 2)}},
		{"the only ones, twice", row(3, only(0), only(1), only(2), only(1)), whole{7, 2, 5, east(0, 1, 2)}},
		{"a place that none has", row(4, only(0), only(1), only(2)), whole{}},
		{"a place that none has, between", row(4, span(0, 1), only(3)), whole{}},
		{"a ring", turned, whole{5, 2, 0, [][2]int{{0, 0}, {1, 1}}}},
		{"the first place is in the way", hook(), whole{7, 1, 7, [][2]int{{0, 1}, {1, 0}, {1, 1}}}},
		{"each second place", row(5, span(0, 1), span(1, 3), span(3, 4)), whole{7, 1, 7, east(0, 2, 4)}},
		{"not the last place that is apart", row(5, span(0, 2), span(2, 4)), whole{3, 1, 3, east(0, 3)}},
		{"a wheel", wheel, whole{31, 1, 31, [][2]int{{0, 0}, {0, 1}, {1, 1}, {1, 2}, {2, 0}}}},
		{"twice, one of them of both", mixed, whole{7, 1, 7, first}},
	} {
		isTold(t, x.name, x.f, x.want)
	}
}

// P10.6: each plate by itself; another one can do without each of two plates, but not without both.
func TestNeeded(t *testing.T) {
	f := row(6, span(0, 2), span(2, 4), only(5), span(4, 5), span(0, 1), only(3))
	isTold(t, "needed", f, whole{set(0, 1, 2), 5, 0, east(0, 3, 5)})
	f.Plates = f.Plates[:4]
	isTold(t, "needed", f, whole{set(0, 1, 2), 2, set(0, 1), east(0, 3, 5)})
	// What is of no use is never needed, also if it is far better than all others.
	f.Days.Hi = 7
	f.Plates = append(f.Plates, plate(span(0, 32), span(0, 32), 8, 100))
	isTold(t, "needed", f, whole{set(0, 1, 2), 2, set(0, 1), east(0, 3, 5)})
	f.Plates[4].Day = 7
	isTold(t, "not needed", f, whole{set(4), 1, 0, east(0)})
}
