package blink_test

import (
	"slices"
	"testing"

	"zoneworks/api"
	"zoneworks/blink"
)

// P7.1: the first images of the trails of all stars.
func TestStars(t *testing.T) {
	// A star whose image of the first exposure has the number 2, and a flaw with the number 0.
	later := trails(1)
	later.Spots = []api.Spot{later.Spots[5], later.Spots[1], later.Spots[0], later.Spots[2]}
	for _, x := range []struct {
		name          string
		b             api.Blink
		first, second []int
	}{
		{"example", example(), []int{0, 1, 2}, []int{0, 1, 2}},
		{"nothing", api.Blink{}, nil, nil},
		{"no stars of First", row(0, 0, 0, nil, at(1, 2)), nil, []int{0, 1}},
		{"no stars of Second", row(0, 0, 0, at(1, 2), nil), []int{0, 1}, nil},
		{"trails, and a flaw", api.Blink{First: trails(1), Second: single(at(1, 2, 3)...)}, []int{0, 3}, []int{0, 1, 2}},
		{"the way with the fewest flaws", api.Blink{First: trails(3), Second: trails(2)}, []int{0, 3}, []int{0, 3}},
		{"a later image", api.Blink{First: later, Second: trails(1)}, []int{2}, []int{0, 3}},
		{"a later image of Second", api.Blink{First: trails(1), Second: later}, []int{0, 3}, []int{2}},
		{"flaws alone", api.Blink{First: api.Sheet{Flaws: 2, Limit: 99, Spots: at(1, 2)}}, nil, nil},
		{"whether or not there is a joining", example(withGone(0)), []int{0, 1, 2}, []int{0, 1, 2}},
		{"as many as can be", wide(9, 9, 0), []int{0, 1, 2, 3, 4, 5, 6, 7, 8}, []int{0, 1, 2, 3, 4, 5, 6, 7, 8}},
	} {
		first, second, e := blink.Stars(x.b)
		if e != api.OK || !slices.Equal(first, x.first) || !slices.Equal(second, x.second) {
			t.Error(x.name, first, second, e)
		}
	}
}

// P7.2, the example, and stars of other numbers.
func TestCan(t *testing.T) {
	for first, row := range [][]int{{13, 0, 0}, {0, 6, 0}, {0, 0, 0}} {
		for second, want := range row {
			same(t, "example", can(t, example(), first, second), want)
			same(t, "whether or not there is a joining", can(t, example(withGone(0)), first, second), want)
		}
	}
	last := row(0, 0, 18, at(1, 2, 3, 4, 5, 6, 7, 8, 9), at(11, 12, 13, 14, 15, 16, 17, 18, 9))
	same(t, "the last stars", can(t, last, 8, 8), api.BlinkStill|api.BlinkEqual)
	same(t, "the last one but one", can(t, last, 7, 8), 0)
	same(t, "all that can be", can(t, wide(9, 9, 0), 8, 0), 15)
}

// P7.2: how far bodies can move, in each direction, and to each side.
func TestMoves(t *testing.T) {
	const still, moved = api.BlinkStill, api.BlinkMoved
	for _, x := range []struct {
		name          string
		move, still   int
		first, second api.Span
		want          int
	}{
		{"at one place", 10, 2, only(50), only(50), still},
		{"as far as it can stand still", 10, 2, only(50), only(52), still},
		{"as far, to the other side", 10, 2, only(50), only(48), still},
		{"farther", 10, 2, only(50), only(53), moved},
		{"farther, to the other side", 10, 2, only(50), only(47), moved},
		{"as far as it can move", 10, 2, only(50), only(60), moved},
		{"as far, to the other side", 10, 2, only(50), only(40), moved},
		{"too far", 10, 2, only(50), only(61), 0},
		{"too far, to the other side", 10, 2, only(50), only(39), 0},
		{"either", 10, 2, only(50), span(52, 53), still | moved},
		{"either, to the other side", 10, 2, only(50), span(47, 48), still | moved},
		{"either side", 10, 2, only(50), span(47, 53), still | moved},
		{"neither side far enough", 10, 2, only(50), span(48, 52), still},
		{"the first one is not exact", 10, 2, span(47, 50), only(50), still | moved},
		{"both are not", 10, 2, span(40, 50), span(50, 55), still | moved},
		{"both are far, to one side", 10, 2, span(40, 47), span(50, 55), moved},
		{"both are far, to the other side", 10, 2, span(50, 55), span(40, 47), moved},
		{"both are too far", 10, 2, span(30, 39), span(50, 55), 0},
		{"some are too far", 10, 2, only(50), span(52, 90), still | moved},
		{"most are too far", 10, 2, only(50), span(60, 90), moved},
		{"just one is not too far", 10, 2, span(20, 40), span(50, 90), moved},
		{"all that can move can stand still", 3, 3, only(50), span(40, 60), still},
		{"what can stand still cannot move", 3, 3, span(50, 53), span(56, 60), still},
		{"no move, at one place", 0, 0, only(50), only(50), still},
		{"no move, near", 0, 0, only(50), only(51), 0},
		{"no move, perhaps at one place", 0, 0, span(40, 50), span(50, 60), still},
		{"each move", 1, 0, only(50), only(51), moved},
		{"as far as bodies move", 10000, 9999, only(50), only(10050), moved},
		{"farther than bodies move", 10000, 0, only(50), only(10051), 0},
		{"as far as plates reach", 10000, 0, only(0), only(1 << 20), 0},
		{"anywhere", 0, 0, span(0, 1<<20), span(0, 1<<20), still},
	} {
		first, second := spot(x.first, only(7), only(9)), spot(x.second, only(7), only(9))
		b, want := pair(x.move, x.still, 0, 0, first, second), x.want
		if want != 0 {
			want |= api.BlinkEqual
		}
		same(t, x.name, can(t, b, 0, 0), want)
		same(t, x.name+", turned", can(t, turned(b), 0, 0), want)
		same(t, x.name+", across", can(t, across(b), 0, 0), want)
	}
}

// P7.2: X and Y together: it stood still if both are near, it moved if one of them is far, and both must be near enough.
func TestMovesBothWays(t *testing.T) {
	const still, moved = api.BlinkStill, api.BlinkMoved
	for _, x := range []struct {
		name string
		x, y api.Span
		want int
	}{
		{"both near", only(50), only(70), still},
		{"one far", only(56), only(70), moved},
		{"the other one far", only(50), only(76), moved},
		{"both far", only(56), only(76), moved},
		{"one perhaps far", span(52, 56), only(70), still | moved},
		{"one far, and one perhaps", only(56), span(72, 76), moved},
		{"both perhaps far", span(52, 56), span(72, 76), still | moved},
		{"one too far", only(61), only(70), 0},
		{"the other one too far", only(50), only(81), 0},
		{"one too far, and one far", only(56), only(81), 0},
		{"one perhaps too far, and one near", span(52, 90), only(70), still | moved},
	} {
		b := pair(10, 2, 0, 0, spot(only(50), only(70), only(9)), spot(x.x, x.y, only(9)))
		want := x.want
		if want != 0 {
			want |= api.BlinkEqual
		}
		same(t, x.name, can(t, b, 0, 0), want)
		same(t, x.name+", turned", can(t, turned(b), 0, 0), want)
	}
}

// P7.2: how much sizes can differ.
func TestSizes(t *testing.T) {
	const equal, varied = api.BlinkEqual, api.BlinkVaried
	for _, x := range []struct {
		name          string
		vary, equal   int
		first, second api.Span
		want          int
	}{
		{"as large", 5, 1, only(50), only(50), equal},
		{"almost as large", 5, 1, only(50), only(51), equal},
		{"almost as small", 5, 1, only(50), only(49), equal},
		{"larger", 5, 1, only(50), only(52), varied},
		{"smaller", 5, 1, only(50), only(48), varied},
		{"as much larger as can be", 5, 1, only(50), only(55), varied},
		{"as much smaller as can be", 5, 1, only(50), only(45), varied},
		{"too large", 5, 1, only(50), only(56), 0},
		{"too small", 5, 1, only(50), only(44), 0},
		{"either", 5, 1, only(50), span(51, 52), equal | varied},
		{"perhaps too large", 5, 1, only(50), span(55, 99), varied},
		{"one span within the other", 5, 1, span(49, 51), span(20, 80), equal | varied},
		{"what varies is as large", 5, 5, only(50), span(40, 60), equal},
		{"exactly as large", 0, 0, span(40, 50), span(50, 60), equal},
		{"as much as sizes can vary", 1000, 98, only(5), only(104), varied},
	} {
		b := pair(0, 0, x.vary, x.equal, spot(only(7), only(7), x.first), spot(only(7), only(7), x.second))
		want := x.want
		if want != 0 {
			want |= api.BlinkStill
		}
		same(t, x.name, can(t, b, 0, 0), want)
		same(t, x.name+", turned", can(t, turned(b), 0, 0), want)
	}
}

// Terms: a star can be where Where says, and as large, which is not all of what its first image says, nor just what its
// trail does.
func TestPlacesAreOfWhere(t *testing.T) {
	// A star whose second image says more exactly where it is, and how large.
	sheet := api.Sheet{
		Steps: [2]api.Step{{X: only(20), Y: only(0)}, {}},
		Fades: [2]api.Span{only(5), only(15)},
		Limit: 10,
		Spots: []api.Spot{spot(span(100, 110), span(0, 9), span(10, 20)), spot(span(119, 121), span(3, 4), only(15))},
	}
	star := func(x, y, size int) api.Blink {
		return api.Blink{First: sheet, Second: single(spot(only(x), only(y), only(size)))}
	}
	both := func(name string, b api.Blink, want int) {
		t.Helper()
		same(t, name, can(t, b, 0, 0), want)
		same(t, name+", turned", can(t, turned(b), 0, 0), want)
	}
	const is = api.BlinkStill | api.BlinkEqual
	both("there", star(101, 3, 20), is)
	both("at the least X", star(100, 4, 20), is)
	both("at a greater X", star(102, 3, 20), 0)
	both("at a lesser Y", star(101, 2, 20), 0)
	both("at a greater Y", star(101, 5, 20), 0)
	both("smaller", star(101, 3, 19), 0)
	// With a flaw the second image may be none of this star, which then is smaller, and at each place of its first image.
	sheet.Flaws = 1
	both("there, with a flaw", star(101, 3, 20), is)
	both("elsewhere, with a flaw", star(110, 9, 10), is)
	both("not much smaller, with a flaw", star(110, 9, 14), is)
	both("between both sizes, with a flaw", star(110, 9, 17), is)
	both("too small, with a flaw", star(101, 3, 9), 0)
	both("too far, with a flaw", star(111, 3, 20), 0)
}

// joined is a blink, what is told of its joinings, and its name.
type joined struct {
	name                string
	b                   api.Blink
	count               int
	fewest              []int
	moved, varied, gone two
}

// joins returns blinks that have joinings.
func joins() []joined {
	near := at(10, 13)
	return []joined{
		{"example", example(), 1, []int{0, 1, no}, two{2, 2}, two{0, 1}, two{4, 4}},
		{"example, three can be gone", example(withGone(3)), 1, []int{0, 1, no}, two{2, 2}, two{0, 1}, two{4, 4}},
		{"example, four can be gone", example(withGone(4)), 3, []int{0, 1, no}, two{0, 2}, two{0, 1}, two{4, 4}},
		{"example, five can be gone", example(withGone(5)), 3, []int{0, 1, no}, two{0, 2}, two{0, 1}, two{4, 4}},
		{"example, all can be gone", example(withGone(6)), 4, []int{0, 1, no}, two{0, 2}, two{0, 1}, two{4, 4}},
		{"example, turned", turned(example()), 1, []int{0, 1, no}, two{2, 2}, two{0, 1}, two{4, 4}},
		{"nothing", api.Blink{}, 1, nil, two{}, two{}, two{}},
		{"no stars of First", row(5, 1, 2, nil, near), 1, nil, two{}, two{}, two{0, 3}},
		{"no stars of Second", row(5, 1, 2, near, nil), 1, []int{no, no}, two{}, two{}, two{3, 0}},
		{"far apart", row(5, 1, 2, at(10), at(20)), 1, []int{no}, two{}, two{}, two{1, 1}},
		// Who is who is open; but if no star is gone, both moved, or none.
		{"two and two", row(5, 1, 0, near, near), 2, []int{0, 1}, two{0, 3}, two{}, two{}},
		{"two and two, one of each can be gone", row(5, 1, 2, near, near), 6, []int{0, 1}, two{0, 3}, two{}, two{}},
		{"two and two, all can be gone", row(5, 1, 4, near, near), 7, []int{0, 1}, two{0, 3}, two{}, two{}},
		{"two and two, both moved", row(4, 1, 0, near, at(15, 8)), 1, []int{1, 0}, two{3, 3}, two{}, two{}},
		{"two and two, whoever is who moved", row(9, 1, 0, near, at(16, 7)), 2, []int{0, 1}, two{3, 3}, two{}, two{}},
		{"two and one", row(5, 1, 1, near, at(13)), 2, []int{no, 0}, two{0, 1}, two{}, two{}},
		{"two and one, all can be gone", row(5, 1, 3, near, at(13)), 3, []int{no, 0}, two{0, 1}, two{}, two{}},
		{"one and two", row(5, 1, 1, at(13), near), 2, []int{0}, two{0, 1}, two{}, two{}},
		{"one and two, both moved", row(5, 1, 1, at(13), at(10, 16)), 2, []int{0}, two{1, 1}, two{}, two{}},
		{"the only twin of another star", row(3, 1, 0, at(10, 13), at(10, 16)), 1, []int{0, 1}, two{2, 2}, two{}, two{}},
		{"the only twin, later", row(3, 1, 0, at(13, 10), at(10, 16)), 1, []int{1, 0}, two{1, 1}, two{}, two{}},
		{"each can be each", row(9, 9, 0, at(1, 2, 3), at(1, 2, 3)), 6, []int{0, 1, 2}, two{}, two{}, two{}},
		{"the first of the most pairs", row(1, 0, 2, at(5, 6, 7), at(6, 5)), 4, []int{no, 1, 0}, two{0, 7}, two{}, two{}},
		// Of stars that vary the same is told.
		{"two sizes", scale(5, 1, 0, sized(10, 13), sized(10, 13)), 2, []int{0, 1}, two{}, two{0, 3}, two{}},
		{"both varied", scale(4, 1, 0, sized(10, 13), sized(15, 8)), 1, []int{1, 0}, two{}, two{3, 3}, two{}},
		{"one varied", scale(5, 1, 0, sized(10, 13), sized(9, 17)), 1, []int{0, 1}, two{}, two{2, 2}, two{}},
		{"one varied, or is gone", scale(5, 1, 2, sized(10, 13), sized(9, 17)), 4, []int{0, 1}, two{}, two{0, 2}, two{}},
		{"one varied, or the other one", scale(5, 1, 1, sized(10, 13), sized(11)), 2, []int{no, 0}, two{}, two{0, 2}, two{}},
		{"moved, and varied", example(func(b *api.Blink) { b.Second.Spots[1].Size = span(43, 44) }), 1, []int{0, 1, no}, two{2, 2}, two{2, 3}, two{4, 4}},
		{"perhaps varied", example(func(b *api.Blink) { b.Second.Spots[1].Size = span(41, 44) }), 1, []int{0, 1, no}, two{2, 2}, two{0, 3}, two{4, 4}},
		{"perhaps moved", example(func(b *api.Blink) { b.Second.Spots[1].X = span(302, 303) }), 1, []int{0, 1, no}, two{0, 2}, two{0, 1}, two{4, 4}},
		{"trails", api.Blink{First: trails(1), Second: trails(2), Move: 1, Vary: 1, Same: 1}, 1, []int{0, 1}, two{0, 3}, two{}, two{}},
		{"one of many", row(0, 0, 16, at(1, 2, 3, 4, 5, 6, 7, 8, 9), at(11, 12, 13, 14, 15, 16, 17, 18, 9)), 1, []int{no, no, no, no, no, no, no, no, 8}, two{}, two{}, two{255, 255}},
		{"no star is near", row(0, 0, 18, at(1, 2, 3, 4, 5, 6, 7, 8, 9), at(11, 12, 13, 14, 15, 16, 17, 18, 19)), 1, []int{no, no, no, no, no, no, no, no, no}, two{}, two{}, two{511, 511}},
		{"all of nine, and none is gone", wide(9, 9, 0), 362880, []int{0, 1, 2, 3, 4, 5, 6, 7, 8}, two{0, 511}, two{0, 511}, two{}},
		{"all of nine, and one of each can be gone", wide(9, 9, 3), 362880 + 81*40320, []int{0, 1, 2, 3, 4, 5, 6, 7, 8}, two{0, 511}, two{0, 511}, two{}},
		{"nine and one", wide(9, 1, 8), 9, []int{no, no, no, no, no, no, no, no, 0}, two{0, 511}, two{0, 511}, two{}},
		{"one and nine", wide(1, 9, 8), 9, []int{0}, two{0, 1}, two{0, 1}, two{}},
		{"three and five", wide(3, 5, 2), 60, []int{0, 1, 2}, two{0, 7}, two{0, 7}, two{}},
		{"five and three", wide(5, 3, 3), 60, []int{no, no, 0, 1, 2}, two{0, 31}, two{0, 31}, two{}},
	}
}

// P7.3: how many joinings there are.
func TestCount(t *testing.T) {
	for _, x := range joins() {
		same(t, x.name, count(t, x.b), x.count)
	}
	same(t, "example, one can be gone", count(t, example(withGone(1))), 0)
	same(t, "example, none can be gone", count(t, example(withGone(0))), 0)
	same(t, "all of nine", count(t, wide(9, 9, 18)), 17572114)
}

// P7.4: the joining with the most pairs, and the first of several.
func TestFewest(t *testing.T) {
	for _, x := range joins() {
		if got, e := blink.Fewest(x.b); e != api.OK || !slices.Equal(got, x.fewest) {
			t.Error(x.name, got, e)
		}
	}
	if got, e := blink.Fewest(wide(9, 9, 18)); e != api.OK || !slices.Equal(got, []int{0, 1, 2, 3, 4, 5, 6, 7, 8}) {
		t.Error("all of nine", got, e)
	}
}

// P7.5: what surely moved, and what can have.
func TestMoved(t *testing.T) {
	for _, x := range joins() {
		surely, can, e := blink.Moved(x.b)
		same(t, x.name, two{surely, can}, x.moved)
		same(t, x.name, e, api.OK)
	}
}

// P7.6: what surely varied, and what can have.
func TestVaried(t *testing.T) {
	for _, x := range joins() {
		surely, can, e := blink.Varied(x.b)
		same(t, x.name, two{surely, can}, x.varied)
		same(t, x.name, e, api.OK)
	}
}

// P7.7: what has no counterpart.
func TestGone(t *testing.T) {
	for _, x := range joins() {
		first, second, e := blink.Gone(x.b)
		same(t, x.name, two{first, second}, x.gone)
		same(t, x.name, e, api.OK)
	}
}
