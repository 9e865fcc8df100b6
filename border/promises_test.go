package border_test

import (
	"slices"
	"testing"

	"zoneworks/api"
	"zoneworks/border"
)

// P6.1: whether two stars can be the same with a shift.
func TestSame(t *testing.T) {
	for _, x := range []struct {
		name          string
		b             api.Border
		first, second int
		with          two
		want          bool
	}{
		{"example", example(), 0, 0, two{2, -1}, true},
		{"example, too far", example(), 0, 0, two{4, -1}, false},
		{"example, another star", example(), 0, 1, two{2, -1}, false},
		{"example, no shift", example(), 0, 0, two{0, 0}, false},
		{"the least to the east", example(), 0, 0, two{1, -1}, true},
		{"less to the east", example(), 0, 0, two{0, -1}, false},
		{"the most to the east", example(), 0, 0, two{3, -1}, true},
		{"the least to the north", example(), 0, 0, two{2, -2}, true},
		{"less to the north", example(), 0, 0, two{2, -3}, false},
		{"more to the north", example(), 0, 0, two{2, 0}, false},
		{"as bright at one end", example(func(b *api.Border) { b.First[0].Bright = span(530, 540) }), 0, 0, two{2, -1}, true},
		{"brighter", example(func(b *api.Border) { b.First[0].Bright = span(531, 540) }), 0, 0, two{2, -1}, false},
		{"as bright at the other end", example(func(b *api.Border) { b.First[0].Bright = span(500, 510) }), 0, 0, two{2, -1}, true},
		{"fainter", example(func(b *api.Border) { b.First[0].Bright = span(500, 509) }), 0, 0, two{2, -1}, false},
		{"one within the other", example(func(b *api.Border) { b.First[0].Bright = span(515, 516) }), 0, 0, two{2, -1}, true},
		{"the other within the one", example(func(b *api.Border) { b.First[0].Bright = span(0, 2000) }), 0, 0, two{2, -1}, true},
		{"brightness is not shifted", row(span(-1, 1), []api.Edge{star(only(1), only(0), only(5), false)}, []api.Edge{star(only(0), only(0), only(5), false)}), 0, 0, two{1, 0}, true},
		{"brightness is not shifted to agree", row(span(-1, 1), []api.Edge{star(only(1), only(0), only(6), false)}, []api.Edge{star(only(0), only(0), only(5), false)}), 0, 0, two{1, 0}, false},
		{"the second zone is what is shifted", row(span(-3, 3), at(7), at(5)), 0, 0, two{2, 0}, true},
		{"the first zone is not", row(span(-3, 3), at(7), at(5)), 0, 0, two{-2, 0}, false},
		{"the north likewise", column(row(span(-3, 3), at(7), at(5))), 0, 0, two{0, 2}, true},
		{"the north likewise, the other way", column(row(span(-3, 3), at(7), at(5))), 0, 0, two{0, -2}, false},
		{"an integer in common", row(span(0, 0), []api.Edge{star(span(0, 5), only(0), only(0), false)}, []api.Edge{star(span(5, 9), only(0), only(0), false)}), 0, 0, two{}, true},
		{"none in common", row(span(0, 0), []api.Edge{star(span(0, 4), only(0), only(0), false)}, []api.Edge{star(span(5, 9), only(0), only(0), false)}), 0, 0, two{}, false},
		{"whoever else is Sure", example(first(2, true)), 0, 0, two{2, -1}, true},
		{"the last ones", row(span(0, 0), at(1, 2, 3, 4, 5, 6), at(0, 0, 0, 0, 0, 6)), 5, 5, two{}, true},
		{"far to the west", row(span(-20, -20), at(-1<<20), at(20-1<<20)), 0, 0, two{-20, 0}, true},
		{"far to the east", row(span(20, 20), at(1<<20), at(1<<20-20)), 0, 0, two{20, 0}, true},
	} {
		same(t, x.name, canBeSame(t, x.b, x.first, x.second, x.with), x.want)
	}
}

// P6.2: how many joinings there are with a shift.
func TestPossible(t *testing.T) {
	for _, x := range []struct {
		name string
		b    api.Border
		with two
		want int
	}{
		{"example", example(), two{2, -1}, 1},
		{"example, another shift", example(), two{3, -2}, 1},
		{"example, no shift", example(), two{0, 0}, 0},
		{"one star less is Sure", example(first(1, false)), two{2, -1}, 2},
		{"that one agrees with no star", example(first(1, false)), two{1, -1}, 1},
		{"it is Sure in the other zone", example(first(1, false), second(1, true)), two{2, -1}, 1},
		{"it is Sure there, and agrees with no star", example(first(1, false), second(1, true)), two{1, -1}, 0},
		{"one star more is Sure", example(first(2, true)), two{2, -1}, 0},
		{"one star more is Sure, of the other zone", example(second(2, true)), two{2, -1}, 0},
		{"no stars", row(span(0, 0), nil, nil), two{}, 1},
		{"no stars of First", row(span(0, 0), nil, at(1, 2)), two{}, 1},
		{"no stars of First, a Sure one of Second", row(span(0, 0), nil, surely(at(1))), two{}, 0},
		{"a Sure one of First, no stars of Second", row(span(0, 0), surely(at(1)), nil), two{}, 0},
		{"two and two", row(span(0, 0), at(5, 5), at(5, 5)), two{}, 7},
		{"two Sure ones and two", row(span(0, 0), surely(at(5, 5)), at(5, 5)), two{}, 2},
		{"two and two Sure ones", row(span(0, 0), at(5, 5), surely(at(5, 5))), two{}, 2},
		{"all are Sure", row(span(0, 0), surely(at(5, 5)), surely(at(5, 5))), two{}, 2},
		{"one and two", row(span(0, 0), at(5), at(5, 5)), two{}, 3},
		{"one and two Sure ones", row(span(0, 0), at(5), surely(at(5, 5))), two{}, 0},
		{"two Sure ones and one", row(span(0, 0), surely(at(5, 5)), at(5)), two{}, 0},
		{"one Sure one of each", row(span(0, 0), append(surely(at(5)), at(5)...), append(at(5), surely(at(5))...)), two{}, 3},
		{"apart", row(span(0, 0), at(1, 2, 3), at(2, 3, 4)), two{}, 4},
		{"shifted", row(span(-9, 9), at(1, 2, 3), at(2, 3, 4)), two{-1, 0}, 8},
		{"all of six", wide(6, 6), two{20, -20}, 13327},
		{"all of six and one", wide(6, 1), two{-20, 20}, 7},
		{"all of one and six", wide(1, 6), two{0, 0}, 7},
	} {
		same(t, x.name, count(t, x.b, x.with), x.want)
	}
}

// P6.3: between which bounds all possible shifts are.
func TestShift(t *testing.T) {
	for _, x := range []struct {
		name        string
		b           api.Border
		east, north api.Span
	}{
		{"example", example(), span(2, 3), span(-2, -1)},
		{"one star less is Sure", example(first(1, false)), span(1, 3), span(-2, -1)},
		{"one star alone is Sure", example(first(0, false), second(0, false)), span(2, 3), span(-2, -1)},
		{"none is Sure", example(first(0, false), first(1, false), second(0, false)), span(-5, 5), span(-5, 5)},
		{"no stars", row(span(-3, 3), nil, nil), span(-3, 3), only(0)},
		{"one shift", row(span(-2, -2), at(5), at(7)), only(-2), only(0)},
		{"one that agrees", row(span(-9, 9), surely(at(5)), at(7)), only(-2), only(0)},
		{"at the least end", row(span(-2, 9), surely(at(5)), at(7)), only(-2), only(0)},
		{"at the greatest end", row(span(-9, -2), surely(at(5)), at(7)), only(-2), only(0)},
		{"one of several stars", row(span(-9, 9), surely(at(5)), at(7, 1, 99)), span(-2, 4), only(0)},
		{"Sure in the other zone", row(span(-9, 9), at(5, 11), surely(at(7))), span(-2, 4), only(0)},
		{"two that cross", row(span(-3, 3), surely(at(5, 9)), at(7, 3)), only(2), only(0)},
		{"the north", column(row(span(-9, 9), surely(at(5)), at(7, 1, 99))), only(0), span(-2, 4)},
		{"each by itself", api.Border{East: span(-9, 9), North: span(-9, 9), First: []api.Edge{star(only(0), only(0), only(0), true)}, Second: []api.Edge{star(only(-3), only(5), only(0), false), star(only(4), only(-6), only(0), false)}}, span(-4, 3), span(-5, 6)},
		{"all", wide(6, 6), span(-20, 20), span(-20, 20)},
	} {
		east, north, e := border.Shift(x.b)
		same(t, x.name, [2]api.Span{east, north}, [2]api.Span{x.east, x.north})
		same(t, x.name, e, api.OK)
	}
}

// P6.4: with which stars a star of First is in a pair, in each joining, and in some.
func TestPairs(t *testing.T) {
	crossed := row(span(0, 0), surely(at(5, 5)), at(5, 5))
	for _, x := range []struct {
		name  string
		b     api.Border
		first int
		want  two
	}{
		{"example", example(), 0, two{1, 1}},
		{"example, the second star", example(), 1, two{2, 2}},
		{"example, the last star", example(), 2, two{0, 0}},
		{"not Sure", example(first(1, false)), 1, two{0, 2}},
		{"not Sure, but the only one of a Sure star", example(first(0, false)), 0, two{1, 1}},
		{"with several shifts", row(span(-3, 3), at(5, 9), at(4, 7)), 0, two{0, 3}},
		{"with one of them", row(span(-3, 3), at(5, 9), at(4, 7)), 1, two{0, 2}},
		{"Sure, with several shifts", row(span(-3, 3), surely(at(5)), at(4, 7)), 0, two{0, 3}},
		{"Sure, with one", row(span(-3, 1), surely(at(5)), at(4, 1)), 0, two{1, 1}},
		{"one or the other", crossed, 0, two{0, 3}},
		{"the other or the one", crossed, 1, two{0, 3}},
		{"a star that others need", row(span(0, 0), append(at(5), surely(at(5))...), at(5)), 0, two{0, 0}},
		{"what others leave", row(span(0, 0), surely([]api.Edge{at(5)[0], star(span(5, 6), only(0), only(0), false)}), at(5, 6)), 1, two{2, 2}},
		{"no shift but one lets others be Sure", row(span(-9, 9), append(at(5), surely(at(50, 80))...), at(3, 4, 49, 79)), 0, two{0, 2}},
		{"the last star", row(span(0, 0), at(1, 2, 3, 4, 5, 6), surely(at(9, 9, 9, 9, 9, 6)[5:])), 5, two{1, 1}},
		{"the last of the last", row(span(0, 0), surely(at(6)), at(1, 2, 3, 4, 5, 6)), 0, two{32, 32}},
		{"no stars of Second", row(span(0, 0), at(6), nil), 0, two{0, 0}},
		{"all", wide(6, 6), 3, two{0, 63}},
	} {
		surely, can, e := border.Pairs(x.b, x.first)
		same(t, x.name, two{surely, can}, x.want)
		same(t, x.name, e, api.OK)
	}
}

// P6.5: the stars of both zones that have no counterpart.
func TestAlone(t *testing.T) {
	for _, x := range []struct {
		name string
		b    api.Border
		want two
	}{
		{"example", example(), two{4, 4}},
		{"no stars", row(span(0, 0), nil, nil), two{0, 0}},
		{"no stars of Second", row(span(0, 0), at(1, 2, 3, 4, 5, 6), nil), two{63, 0}},
		{"no stars of First", row(span(0, 0), nil, at(1, 2)), two{0, 3}},
		{"with some shift", row(span(-3, 3), at(5, 9), at(4, 7)), two{0, 0}},
		{"with no shift", row(span(-1, 1), at(5, 9), at(4, 7)), two{2, 2}},
		{"not with the shift that Sure stars need", row(span(-3, 3), append(surely(at(50)), at(5)...), at(51, 5)), two{2, 2}},
		{"with it", row(span(-3, 3), append(surely(at(50)), at(5)...), at(51, 6)), two{0, 0}},
		{"others need the star", row(span(0, 0), append(at(5), surely(at(5))...), at(5)), two{1, 0}},
		{"others need the star, in the other zone", row(span(0, 0), at(5), append(surely(at(5)), at(5)...)), two{0, 2}},
		{"all", wide(6, 5), two{0, 0}},
	} {
		first, second, e := border.Alone(x.b)
		same(t, x.name, two{first, second}, x.want)
		same(t, x.name, e, api.OK)
	}
}

// P6.6: the first shift with which most stars agree, and the first joining with as many pairs.
func TestBest(t *testing.T) {
	for _, x := range []struct {
		name    string
		b       api.Border
		with    two
		joining []int
	}{
		{"example", example(), two{2, -2}, []int{0, 1, no}},
		{"no stars", row(span(-3, 3), nil, nil), two{-3, 0}, nil},
		{"no stars of First", row(span(-3, 3), nil, at(1, 2)), two{-3, 0}, nil},
		{"no stars of Second", row(span(-3, 3), at(1, 2), nil), two{-3, 0}, []int{no, no}},
		{"none agrees", row(span(-3, 3), at(1, 2), at(9)), two{-3, 0}, []int{no, no}},
		{"the first of two shifts", row(span(-3, 3), at(5, 9), at(4, 7)), two{-2, 0}, []int{1, no}},
		{"a later shift with more pairs", row(span(-3, 3), at(5, 9), at(7, 3, 7)), two{2, 0}, []int{1, 0}},
		{"more pairs than the first joining has", row(span(0, 0), []api.Edge{star(span(5, 6), only(0), only(0), false), at(5)[0]}, at(5, 6)), two{0, 0}, []int{1, 0}},
		{"the first star alone, if one can be", row(span(0, 0), at(5, 5), at(5)), two{0, 0}, []int{no, 0}},
		{"the first of several joinings", row(span(0, 0), at(5, 5), at(5, 5)), two{0, 0}, []int{0, 1}},
		{"most pairs among possible shifts only", row(span(-3, 3), append(surely(at(50)), at(5, 9)...), at(7, 11, 49)), two{1, 0}, []int{2, no, no}},
		{"the first to the north", column(row(span(-3, 3), at(5, 9), at(4, 7))), two{0, -2}, []int{1, no}},
		{"the east comes before the north", api.Border{East: span(-9, 9), North: span(-9, 9), First: at(0), Second: []api.Edge{star(only(-3), only(7), only(0), false), star(only(4), only(-6), only(0), false)}}, two{-4, 6}, []int{1}},
		{"all", wide(6, 6), two{-20, -20}, []int{0, 1, 2, 3, 4, 5}},
		{"all of more", wide(6, 4), two{-20, -20}, []int{no, no, 0, 1, 2, 3}},
		{"all of less", wide(4, 6), two{-20, -20}, []int{0, 1, 2, 3}},
	} {
		east, north, joining, e := border.Best(x.b)
		same(t, x.name, two{east, north}, x.with)
		same(t, x.name, e, api.OK)
		if !slices.Equal(joining, x.joining) {
			t.Errorf("%s: %v, not %v", x.name, joining, x.joining)
		}
	}
}

// P6.7: the fewest stars that contradict each other.
func TestClash(t *testing.T) {
	for _, x := range []struct {
		name string
		b    api.Border
		want two
	}{
		{"example, one star more is Sure", example(first(2, true)), two{4, 0}},
		{"example, one star more of Second is Sure", example(second(2, true)), two{0, 4}},
		{"example, both", example(first(2, true), second(2, true)), two{0, 4}},
		{"two of First need different shifts", row(span(-3, 3), surely(at(5, 9)), at(4, 7)), two{3, 0}},
		{"two of Second need one star", row(span(-3, 3), surely(at(5)), surely(at(5, 5))), two{0, 3}},
		{"one of Second that nothing is like", row(span(-3, 3), at(5), surely(at(9))), two{0, 1}},
		{"the fewest, not the least set of First", row(span(-3, 3), surely(at(50, 5)), surely(at(50, 99))), two{0, 2}},
		{"the fewest, not the least set of Second", row(span(-3, 3), surely(at(50, 99)), surely(at(50, 52))), two{2, 0}},
		{"two of three", row(span(-3, 3), surely(at(20, 50, 80)), at(21, 51, 79)), two{5, 0}},
		{"the lesser set of First", row(span(-3, 3), surely(at(20, 50)), surely(at(21, 49))), two{0, 3}},
		{"one of each", row(span(-3, 3), append(surely(at(20)), at(51)...), append(surely(at(50)), at(21)...)), two{1, 1}},
		{"one of each, the lesser set of Second", row(span(-3, 3), append(surely(at(20)), at(52, 92)...), append(surely(at(51, 91)), at(21)...)), two{1, 1}},
		{"one of each, the second one of each", row(span(-3, 3), append(at(51), surely(at(80, 20))...), append(at(21, 80), surely(at(50))...)), two{2, 4}},
		{"who is not Sure does not count", row(span(-3, 3), at(5, 9, 99), surely(at(4, 7))), two{0, 3}},
		{"three", row(span(0, 0), surely(at(5, 5, 5)), at(5, 5)), two{7, 0}},
		{"six", row(span(0, 0), surely(at(5, 5, 5, 5, 5, 5)), at(5, 5, 5, 5, 5)), two{63, 0}},
		{"no stars of the other zone", row(span(0, 0), append(at(1), surely(at(1, 1))...), nil), two{2, 0}},
	} {
		first, second, e := border.Clash(x.b)
		same(t, x.name, two{first, second}, x.want)
		same(t, x.name, e, api.OK)
	}
}
