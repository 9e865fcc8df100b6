package orbit_test

import (
	"slices"
	"testing"

	"zoneworks/api"
	"zoneworks/orbit"
)

// trail is images of a search in one direction: whether they fit, and how they move.
type trail struct {
	name   string
	speed  api.Span
	days   []int
	spans  []api.Span
	fits   bool
	motion api.Span
}

// search is a search of one image a night, which stand still in the other direction.
func (x trail) search(other api.Span) api.Search {
	s := search(x.speed, 0)
	for n, day := range x.days {
		s.Nights = append(s.Nights, night(day, spot(x.spans[n], other)))
	}
	return s
}

// trails are bodies, and what is none.
func trails() []trail {
	wide, still := span(-20, 20), only(0)
	return []trail{
		{"at one place", wide, []int{3, 4}, []api.Span{only(7), only(7)}, true, still},
		{"on", wide, []int{3, 4}, []api.Span{only(7), only(11)}, true, only(4)},
		{"back", wide, []int{3, 4}, []api.Span{only(7), only(3)}, true, only(-4)},
		{"as fast as can be", wide, []int{0, 1}, []api.Span{only(0), only(20)}, true, only(20)},
		{"as fast back", wide, []int{0, 1}, []api.Span{only(0), only(-20)}, true, only(-20)},
		{"too fast", wide, []int{0, 1}, []api.Span{only(0), only(21)}, false, still},
		{"too fast back", wide, []int{0, 1}, []api.Span{only(0), only(-21)}, false, still},
		{"too slow", span(3, 5), []int{0, 2}, []api.Span{only(0), only(4)}, false, still},
		{"as slow as can be", span(3, 5), []int{0, 2}, []api.Span{only(0), only(6)}, true, only(3)},
		{"one speed", only(7), []int{2, 4}, []api.Span{span(0, 9), span(0, 90)}, true, only(7)},
		{"not the one speed", only(7), []int{2, 4}, []api.Span{span(0, 9), span(24, 90)}, false, still},
		{"no integer", wide, []int{0, 2}, []api.Span{only(0), only(3)}, false, still},
		{"no integer below zero", wide, []int{0, 2}, []api.Span{only(0), only(-3)}, false, still},
		{"the next integer", wide, []int{0, 2}, []api.Span{only(0), span(3, 4)}, true, only(2)},
		{"the integer before", wide, []int{0, 2}, []api.Span{span(0, 1), only(3)}, true, only(1)},
		{"the integer above one below zero", wide, []int{0, 2}, []api.Span{only(0), span(-3, -2)}, true, only(-1)},
		{"between two integers", wide, []int{0, 5}, []api.Span{span(0, 1), span(7, 9)}, false, still},
		{"rounded inside", wide, []int{0, 3}, []api.Span{span(0, 2), span(5, 10)}, true, span(1, 3)},
		{"rounded inside, below zero", wide, []int{0, 3}, []api.Span{span(0, 2), span(-10, -5)}, true, span(-4, -2)},
		{"no more than fast", wide, []int{0, 1}, []api.Span{only(0), span(15, 99)}, true, span(15, 20)},
		{"one image", wide, []int{5}, []api.Span{span(-9, 9)}, true, wide},
		{"one image of one speed", only(-3), []int{5}, []api.Span{only(1)}, true, only(-3)},
		{"three images", wide, []int{0, 1, 3}, []api.Span{only(0), only(5), only(15)}, true, only(5)},
		{"three images, not even", wide, []int{0, 1, 3}, []api.Span{only(0), only(5), only(16)}, false, still},
		{"three images, the last one tells most", wide, []int{0, 1, 10}, []api.Span{span(0, 3), span(5, 9), span(48, 52)}, true, only(5)},
		{"three images, the middle one tells all", wide, []int{0, 1, 2}, []api.Span{only(0), only(4), span(-90, 90)}, true, only(4)},
		{"each two of three, but not all", wide, []int{0, 1, 2}, []api.Span{span(0, 10), only(0), only(5)}, false, still},
		{"a narrow way through three", wide, []int{0, 1, 2}, []api.Span{span(0, 10), only(6), only(5)}, true, only(-1)},
		{"four images", wide, []int{0, 2, 3, 7}, []api.Span{span(0, 1), span(5, 7), span(8, 9), span(19, 22)}, true, only(3)},
		{"four images, one of them elsewhere", wide, []int{0, 2, 3, 7}, []api.Span{span(0, 1), span(5, 7), span(3, 5), span(19, 22)}, false, still},
		{"the last day", span(-500, 500), []int{0, api.MaxDay}, []api.Span{only(0), only(500 * api.MaxDay)}, true, only(500)},
		{"the last day, back", span(-500, 500), []int{0, api.MaxDay}, []api.Span{only(0), only(-500 * api.MaxDay)}, true, only(-500)},
		{"the last day, too fast", span(-500, 500), []int{0, api.MaxDay}, []api.Span{only(0), only(500*api.MaxDay + 1)}, false, still},
		{"late days", wide, []int{api.MaxDay - 1, api.MaxDay}, []api.Span{only(0), span(4, 6)}, true, span(4, 6)},
		{"across all the sky", span(-500, 500), []int{0, 1}, []api.Span{only(-api.OrbitSky), only(api.OrbitSky)}, false, still},
		{"anywhere", span(-500, 500), []int{0, 1}, []api.Span{span(-api.OrbitSky, api.OrbitSky), span(-api.OrbitSky, api.OrbitSky)}, true, span(-500, 500)},
	}
}

// P8.1 and P8.2, a direction at a time: each part of a body is one, also.
func TestTrails(t *testing.T) {
	for _, x := range trails() {
		other := span(-99999, 99999)
		s, images := x.search(other), 1<<len(x.days)-1
		is, e := orbit.Fits(s, images)
		same(t, x.name, two[any]{is, e}, two[any]{x.fits, api.OK})
		turned, e := orbit.Fits(across(s), images)
		same(t, x.name+", across", two[any]{turned, e}, two[any]{x.fits, api.OK})
		want := api.OK
		if !x.fits {
			want = api.ErrNone
		}
		east, _, e := orbit.Motion(s, images)
		same(t, x.name, two[any]{east, e}, two[any]{x.motion, want})
		_, north, e := orbit.Motion(across(s), images)
		same(t, x.name+", across", two[any]{north, e}, two[any]{x.motion, want})
	}
}

// P8.1: which sets of images are bodies, and P8.2: how they move.
func TestBodies(t *testing.T) {
	both := func(a, b, c, d int) two[api.Span] { return two[api.Span]{span(a, b), span(c, d)} }
	none := two[api.Span]{}
	far := search(span(-9, 9), 0, night(0, spot(only(0), only(0))), night(1, spot(only(9), only(-9))), night(2, spot(only(18), only(-19))), night(3, spot(only(28), only(-27))))
	for _, x := range []struct {
		name   string
		s      api.Search
		images int
		fits   bool
		motion two[api.Span]
	}{
		{"example, three", example(), set(0, 2, 4), true, both(10, 10, 1, 1)},
		{"example, two", example(), set(0, 2), true, both(10, 10, 1, 1)},
		{"example, other two", example(), set(1, 3), true, both(0, 1, 0, 0)},
		{"example, three that are not even", example(), set(1, 3, 4), false, none},
		{"example, of one night", example(), set(0, 1), false, none},
		{"example, of one night, and others", example(), set(0, 1, 2, 4), false, none},
		{"example, all", example(), set(0, 1, 2, 3, 4), false, none},
		{"example, the last night", example(), set(3, 4), true, both(0, 0, -3, -3)},
		{"example, too fast", example(), set(1, 2), false, none},
		{"example, one", example(), set(4), true, both(-20, 20, -20, 20)},
		{"whatever strays there can be", example(withStrays(0)), set(4), true, both(-20, 20, -20, 20)},
		{"both directions", far, set(0, 1), true, both(9, 9, -9, -9)},
		{"not to the north", far, set(1, 2), false, none},
		{"not to the north, farther", far, set(0, 2), false, none},
		{"not to the east", far, set(0, 3), false, none},
		{"not to the east, nearer", far, set(2, 3), false, none},
		{"the last images", far, set(1, 3), false, none},
		{"of one place and night", rows(9, 0, []int{4, 4}), set(0, 1), false, none},
		{"of one place, and two nights", rows(9, 0, []int{4}, []int{4}), set(0, 1), true, both(0, 0, 0, 0)},
		{"a night without images between", rows(9, 0, []int{4}, nil, []int{6}), set(0, 1), true, both(1, 1, 0, 0)},
		{"nights without images before", rows(9, 0, nil, nil, []int{4}, []int{6, 5}), set(0, 2), true, both(1, 1, 0, 0)},
		{"of one night, after another one", wide(0, 1, 7), set(0, 6, 7), false, none},
		{"of one night, before another one", wide(0, 7, 1), set(0, 1, 7), false, none},
		{"the last ones of four nights", wide(0, 2, 2, 2, 2), set(1, 3, 5, 7), true, both(-500, 500, -500, 500)},
		{"the first and the last image", wide(0, 2, 2, 2, 2), set(0, 7), true, both(-500, 500, -500, 500)},
		{"all of one night", wide(0, 8), 255, false, none},
		{"one of eight", wide(0, 8), set(7), true, both(-500, 500, -500, 500)},
	} {
		is, e := orbit.Fits(x.s, x.images)
		same(t, x.name, two[any]{is, e}, two[any]{x.fits, api.OK})
		want := api.OK
		if !x.fits {
			want = api.ErrNone
		}
		east, north, e := orbit.Motion(x.s, x.images)
		same(t, x.name, two[any]{two[api.Span]{east, north}, e}, two[any]{x.motion, want})
	}
}

// P8.3: where a body is on a day.
func TestWhere(t *testing.T) {
	still := span(-99999, 99999)
	one := trail{speed: span(-20, 20), days: []int{11}, spans: []api.Span{span(100, 102)}}.search(still)
	slow := trail{speed: span(0, 1), days: []int{10, 13}, spans: []api.Span{span(200, 201), span(200, 203)}}.search(still)
	narrow := trail{speed: span(-20, 20), days: []int{0, 1, 2}, spans: []api.Span{span(0, 10), span(4, 6), only(5)}}.search(still)
	edge := trail{speed: span(-500, 500), days: []int{0}, spans: []api.Span{span(-api.OrbitSky, api.OrbitSky)}}.search(still)
	late := trail{speed: span(-500, 500), days: []int{api.MaxDay}, spans: []api.Span{only(3)}}.search(still)
	const far = 500 * api.MaxDay
	for _, x := range []struct {
		name        string
		s           api.Search
		images, day int
		east        api.Span
	}{
		{"example", example(), set(0, 2), 20, span(200, 201)},
		{"example, before", example(), set(0, 2), 0, span(0, 1)},
		{"example, on its night", example(), set(0, 2), 10, span(100, 101)},
		{"example, other two", example(), set(1, 3), 20, span(200, 210)},
		{"example, between", example(), set(1, 3), 11, span(200, 201)},
		{"example, three", example(), set(0, 2, 4), 20, span(200, 201)},
		{"one image, on its night", one, 1, 11, span(100, 102)},
		{"one image, later", one, 1, 13, span(60, 142)},
		{"one image, before", one, 1, 10, span(80, 122)},
		// With the motion 1 it is at 200 on the first night, or it is too far on the second one.
		{"the least of one motion, the greatest of another one", slow, 3, 30, span(200, 220)},
		{"before all", slow, 3, 0, span(190, 201)},
		{"on the second night", slow, 3, 13, span(200, 203)},
		// It moves by -1 to 1 a day.
		{"three images", narrow, 7, 2, only(5)},
		{"three images, on the first night", narrow, 7, 0, span(3, 7)},
		{"three images, later", narrow, 7, 6, span(1, 9)},
		{"the last of them alone", narrow, 4, 1, span(-15, 25)},
		{"the edge of the sky, on the last day", edge, 1, api.MaxDay, span(-api.OrbitSky-far, api.OrbitSky+far)},
		{"the last day, on the first day", late, 1, 0, span(3-far, 3+far)},
		{"the last day", late, 1, api.MaxDay, only(3)},
	} {
		east, _, e := orbit.Where(x.s, x.images, x.day)
		same(t, x.name, two[any]{east, e}, two[any]{x.east, api.OK})
		_, north, e := orbit.Where(across(x.s), x.images, x.day)
		same(t, x.name+", across", two[any]{north, e}, two[any]{x.east, api.OK})
	}
	_, north, e := orbit.Where(example(), set(1, 3), 20)
	same(t, "example, to the north", two[any]{north, e}, two[any]{span(80, 81), api.OK})
	_, north, e = orbit.Where(example(), set(0, 2), 20)
	same(t, "example, to the north", two[any]{north, e}, two[any]{only(60), api.OK})
	for images, where := range map[int]two[api.Span]{set(0, 1): {}, set(1, 3, 4): {}} {
		east, north, e := orbit.Where(example(), images, 20)
		same(t, "no body", two[any]{two[api.Span]{east, north}, e}, two[any]{where, api.ErrNone})
	}
}

// joined is a search that has joinings, what is told of them, and its name.
type joined struct {
	name         string
	s            api.Search
	count        int
	lost         two[int]
	simple, sure []int
	// always and perhaps are the images that are together; all others never are.
	always, perhaps [][2]int
}

// pairs returns all images of which one is of the one list, and one of the other list.
func pairs(a, b []int) [][2]int {
	var list [][2]int
	for _, x := range a {
		for _, y := range b {
			list = append(list, [2]int{x, y})
		}
	}
	return list
}

// joins returns searches that have joinings.
func joins() []joined {
	type list = [][2]int
	threes := rows(9, 3, []int{0, 50}, []int{5, 52}, []int{10})
	return []joined{
		{"example", example(), 6, two[int]{0, 31}, []int{21, 10}, nil, nil, list{{0, 2}, {0, 4}, {1, 3}, {1, 4}, {2, 4}, {3, 4}}},
		{"example, without strays", example(withStrays(0)), 1, two[int]{}, []int{21, 10}, []int{21, 10}, list{{0, 2}, {0, 4}, {2, 4}, {1, 3}}, nil},
		// With two strays there is 0 2 4 besides; with three each of the six pairs alone; and with five no pair at all.
		{"example, two strays", example(withStrays(2)), 7, two[int]{0, 31}, []int{21, 10}, nil, nil, list{{0, 2}, {0, 4}, {1, 3}, {1, 4}, {2, 4}, {3, 4}}},
		{"example, three strays", example(withStrays(3)), 13, two[int]{0, 31}, []int{21, 10}, nil, nil, list{{0, 2}, {0, 4}, {1, 3}, {1, 4}, {2, 4}, {3, 4}}},
		{"example, five strays", example(withStrays(5)), 14, two[int]{0, 31}, []int{21, 10}, nil, nil, list{{0, 2}, {0, 4}, {1, 3}, {1, 4}, {2, 4}, {3, 4}}},
		{"nothing", api.Search{}, 1, two[int]{}, nil, nil, nil, nil},
		{"nights without images", rows(9, 0, nil, nil, nil, nil), 1, two[int]{}, nil, nil, nil, nil},
		{"one image", rows(9, 1, []int{5}), 1, two[int]{1, 1}, []int{1}, []int{1}, nil, nil},
		{"two of one night", rows(9, 2, []int{5, 5}), 1, two[int]{3, 3}, []int{1, 2}, []int{1, 2}, nil, nil},
		{"two, far apart", rows(9, 2, []int{5}, []int{50}), 1, two[int]{3, 3}, []int{1, 2}, []int{1, 2}, nil, nil},
		{"two, near", rows(9, 0, []int{5}, []int{6}), 1, two[int]{}, []int{3}, []int{3}, list{{0, 1}}, nil},
		{"two, near, and one of them can be a stray", rows(9, 1, []int{5}, []int{6}), 1, two[int]{}, []int{3}, []int{3}, list{{0, 1}}, nil},
		{"two, near, and both can be strays", rows(9, 2, []int{5}, []int{6}), 2, two[int]{0, 3}, []int{3}, nil, nil, list{{0, 1}}},
		{"who is who is open", rows(9, 0, []int{0, 5}, []int{3, 7}), 2, two[int]{}, []int{5, 10}, nil, nil, list{{0, 2}, {0, 3}, {1, 2}, {1, 3}}},
		{"who is who is not", rows(9, 0, []int{0, 5}, []int{3, 12}), 1, two[int]{}, []int{5, 10}, []int{5, 10}, list{{0, 2}, {1, 3}}, nil},
		{"crossed", rows(4, 0, []int{0, 9}, []int{8, 1}), 1, two[int]{}, []int{9, 6}, []int{9, 6}, list{{0, 3}, {1, 2}}, nil},
		{"one image too many", rows(9, 1, []int{0, 100}, []int{3}), 1, two[int]{2, 2}, []int{5, 2}, []int{5, 2}, list{{0, 2}}, nil},
		{"one too many, and all can be strays", rows(9, 3, []int{0, 100}, []int{3}), 2, two[int]{2, 7}, []int{5, 2}, []int{2}, nil, list{{0, 2}}},
		{"one too many, whichever it is", rows(9, 1, []int{0, 5}, []int{3}), 2, two[int]{0, 3}, []int{1, 6}, nil, nil, list{{0, 2}, {1, 2}}},
		{"the body of the first of two is simpler, as a number", rows(9, 1, []int{3}, []int{0, 5}), 2, two[int]{0, 6}, []int{3, 4}, nil, nil, list{{0, 1}, {0, 2}}},
		{"three in a row", rows(9, 0, []int{0}, []int{5}, []int{10}), 1, two[int]{}, []int{7}, []int{7}, list{{0, 1}, {0, 2}, {1, 2}}, nil},
		{"three in a row, one can be a stray", rows(9, 1, []int{0}, []int{5}, []int{10}), 4, two[int]{0, 7}, []int{7}, nil, nil, list{{0, 1}, {0, 2}, {1, 2}}},
		{"three in a row, all can be", rows(9, 3, []int{0}, []int{5}, []int{10}), 5, two[int]{0, 7}, []int{7}, nil, nil, list{{0, 1}, {0, 2}, {1, 2}}},
		{"three not in a row", rows(9, 1, []int{0}, []int{5}, []int{11}), 2, two[int]{0, 5}, []int{1, 6}, nil, nil, list{{0, 1}, {1, 2}}},
		{"two bodies, one of them of three images", threes, 9, two[int]{0, 31}, []int{21, 10}, nil, nil, list{{0, 2}, {0, 4}, {1, 3}, {2, 4}}},
		{"a body of two, and three strays at most", rows(9, 3, []int{0, 50}, []int{5, 30}, []int{90}), 1, two[int]{26, 26}, []int{5, 2, 8, 16}, []int{5, 2, 8, 16}, list{{0, 2}}, nil},
		{"four in a row, in two bodies or one", rows(9, 0, []int{0}, []int{5}, []int{10}, []int{15}), 4, two[int]{}, []int{15}, nil, nil, list{{0, 1}, {0, 2}, {0, 3}, {1, 2}, {1, 3}, {2, 3}}},
		{"two of four nights", wide(0, 2, 2, 2, 2), 212, two[int]{}, []int{85, 170}, nil, nil, slices.Concat(pairs([]int{0, 1}, []int{2, 3, 4, 5, 6, 7}), pairs([]int{2, 3}, []int{4, 5, 6, 7}), pairs([]int{4, 5}, []int{6, 7}))},
		{"two of four nights, and all can be strays", wide(8, 2, 2, 2, 2), 1657, two[int]{0, 255}, []int{85, 170}, nil, nil, slices.Concat(pairs([]int{0, 1}, []int{2, 3, 4, 5, 6, 7}), pairs([]int{2, 3}, []int{4, 5, 6, 7}), pairs([]int{4, 5}, []int{6, 7}))},
		{"four of two nights, one stray", wide(1, 4, 4), 24, two[int]{}, []int{17, 34, 68, 136}, nil, nil, pairs([]int{0, 1, 2, 3}, []int{4, 5, 6, 7})},
		{"five and three", wide(2, 5, 3), 60, two[int]{0, 31}, []int{1, 2, 36, 72, 144}, nil, nil, pairs([]int{0, 1, 2, 3, 4}, []int{5, 6, 7})},
		{"eight of one night", wide(8, 8), 1, two[int]{255, 255}, []int{1, 2, 4, 8, 16, 32, 64, 128}, []int{1, 2, 4, 8, 16, 32, 64, 128}, nil, nil},
	}
}

// clashes returns searches that have no joining.
func clashes() map[string]api.Search {
	return map[string]api.Search{
		"one image":                  rows(9, 0, []int{5}),
		"two, far apart":             rows(9, 1, []int{5}, []int{50}),
		"two of one night":           rows(9, 1, []int{5, 5}),
		"one image too many":         rows(9, 0, []int{0, 100}, []int{3}),
		"three not in a row":         rows(9, 0, []int{0}, []int{5}, []int{11}),
		"three strays, and two can":  rows(9, 2, []int{0, 50}, []int{5, 30}, []int{90}),
		"eight of one night":         wide(7, 8),
		"five and three":             wide(1, 5, 3),
		"example, and one far image": example(func(s *api.Search) { s.Strays = 0; s.Nights[0].Spots[0].East = only(500) }),
	}
}

// P8.4: how many joinings there are.
func TestCount(t *testing.T) {
	for _, x := range joins() {
		n, e := orbit.Count(x.s)
		same(t, x.name, two[any]{n, e}, two[any]{x.count, api.OK})
	}
	for name, s := range clashes() {
		n, e := orbit.Count(s)
		same(t, name, two[any]{n, e}, two[any]{0, api.OK})
	}
	// With eight images, for each number of strays: how many sets of sets there are that share no night.
	for _, x := range []struct {
		images []int
		counts [9]int
	}{
		{[]int{2, 2, 2, 2}, [9]int{212, 660, 1140, 1428, 1600, 1632, 1656, 1656, 1657}},
		{[]int{4, 4}, [9]int{24, 24, 120, 120, 192, 192, 208, 208, 209}},
		{[]int{3, 3, 2}, [9]int{72, 252, 474, 618, 738, 756, 777, 777, 778}},
		{[]int{2, 3, 1, 2}, [9]int{132, 444, 810, 1042, 1196, 1224, 1247, 1247, 1248}},
	} {
		for strays, want := range x.counts {
			n, e := orbit.Count(wide(strays, x.images...))
			same(t, "all", two[any]{n, e}, two[any]{want, api.OK})
		}
	}
}

// P8.5: which images are of one body.
func TestTogether(t *testing.T) {
	for _, x := range joins() {
		var want [api.OrbitImages][api.OrbitImages]int
		for _, p := range x.always {
			want[p[0]][p[1]], want[p[1]][p[0]] = api.OrbitAlways, api.OrbitAlways
		}
		for _, p := range x.perhaps {
			want[p[0]][p[1]], want[p[1]][p[0]] = api.OrbitPerhaps, api.OrbitPerhaps
		}
		for a := range sizeOf(x.s) {
			for b := range sizeOf(x.s) {
				if a != b {
					n, e := orbit.Together(x.s, a, b)
					same(t, x.name, two[any]{n, e}, two[any]{want[a][b], api.OK})
				}
			}
		}
	}
}

// P8.6: which images are strays.
func TestLost(t *testing.T) {
	for _, x := range joins() {
		surely, can, e := orbit.Lost(x.s)
		same(t, x.name, two[any]{two[int]{surely, can}, e}, two[any]{x.lost, api.OK})
	}
}

// P8.7: the joining with the fewest bodies, and the first of several.
func TestSimple(t *testing.T) {
	for _, x := range joins() {
		if got, e := orbit.Simple(x.s); e != api.OK || !slices.Equal(got, x.simple) {
			t.Error(x.name, got, e)
		}
	}
}

// P8.8: the bodies that all joinings have.
func TestSure(t *testing.T) {
	for _, x := range joins() {
		if got, e := orbit.Sure(x.s); e != api.OK || !slices.Equal(got, x.sure) {
			t.Error(x.name, got, e)
		}
	}
}

// Errors: without a joining there is nothing to be told of any; but bodies are told (P8.1 to P8.4).
func TestClashes(t *testing.T) {
	for name, s := range clashes() {
		x := tellAll(t, s, 0)
		if !x.isClash() || x.lost != (two[int]{}) || len(x.simple) > 0 || len(x.sure) > 0 || x.together != [8][8]int{} {
			t.Error(name, x)
		}
		for image := range sizeOf(s) {
			same(t, name, x.fits[1<<image], true)
			same(t, name, x.motion[1<<image], two[api.Span]{s.Speed, s.Speed})
		}
	}
}
