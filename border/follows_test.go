package border_test

import (
	"math/rand/v2"
	"reflect"
	"slices"
	"testing"

	"zoneworks/api"
	"zoneworks/border"
)

// world is what is true: the shift, and which star of Second each star of First is, or NoEdge.
type world struct {
	shift two
	twins []int
}

// seen returns a star that is seen at its place, known within a width.
func seen(r *rand.Rand, east, north, bright, width int, sure bool) api.Edge {
	const far = api.BorderSky
	return star(around(r, east, width, -far, far), around(r, north, width, -far, far), around(r, bright, width, 0, api.BorderBright), sure)
}

// makeWorld returns a border of stars that are in one zone, or in both, and what is true of it.
func makeWorld(r *rand.Rand) (api.Border, world) {
	w := world{shift: two{pick(r, -20, 20), pick(r, -20, 20)}}
	b := api.Border{East: around(r, w.shift.a, 9, -20, 20), North: around(r, w.shift.b, 9, -20, 20)}
	reach, width := []int{3, 30, 900}[r.IntN(3)], pick(r, 0, 4)
	both := pick(r, 0, 5)
	for n := range both + pick(r, 0, 6-both) {
		east, north, bright := pick(r, -reach, reach), pick(r, -reach, reach), pick(r, 0, reach)
		inBoth := n < both
		inFirst := inBoth || r.IntN(2) == 0
		if inFirst {
			b.First = append(b.First, seen(r, east+w.shift.a, north+w.shift.b, bright, width, inBoth && r.IntN(2) == 0))
			w.twins = append(w.twins, no)
		}
		if inBoth {
			w.twins[n] = len(b.Second)
		}
		if inBoth || !inFirst {
			b.Second = append(b.Second, seen(r, east, north, bright, width, inBoth && r.IntN(2) == 0))
		}
	}
	return b, w
}

// otherOrder returns a border whose stars have other numbers: the star n of each zone has the number that is said.
func otherOrder(b api.Border, first, second []int) api.Border {
	other := copyOf(b)
	for n, to := range first {
		other.First[to] = b.First[n]
	}
	for n, to := range second {
		other.Second[to] = b.Second[n]
	}
	return other
}

// renumbered returns a set of stars that have other numbers.
func renumbered(set int, to []int) int {
	other := 0
	for n, now := range to {
		if has(set, n) {
			other |= 1 << now
		}
	}
	return other
}

// anyWorld returns a border of which what is true is of no matter.
func anyWorld(r *rand.Rand) api.Border {
	if r.IntN(2) == 0 {
		return anyBorder(r, 4)
	}
	b, _ := makeWorld(r)
	if len(b.First) > 0 && r.IntN(3) == 0 {
		b.First[r.IntN(len(b.First))].Sure = true
	}
	return b
}

// P6.9, P2, P5: what is true is within what is told.
func TestTruthIsWithin(t *testing.T) {
	r := random()
	told, alone, open := 0, 0, 0
	for range 1500 {
		b, w := makeWorld(r)
		if count(t, b, w.shift) < 1 {
			t.Fatal("the true shift is not possible", b, w)
		}
		x := tellAll(b)
		same(t, "Clash", x.errors[3], api.ErrNone)
		if !x.isPossible() || !in(w.shift.a, x.east) || !in(w.shift.b, x.north) {
			t.Fatal("Shift", b, w, x)
		}
		truth := paired(w.twins)
		if size(paired(x.joining).a) < size(truth.a) || x.alone.a&truth.a != 0 || x.alone.b&truth.b != 0 {
			t.Fatal("Best, Alone", b, w, x)
		}
		alone += size(x.alone.a) + size(x.alone.b)
		for first, p := range x.pairs {
			twin := 0
			if second := w.twins[first]; second != no {
				twin = 1 << second
				same(t, "Same", canBeSame(t, b, first, second, w.shift), true)
			}
			if twin&^p.b != 0 || p.a&^twin != 0 {
				t.Fatal("Pairs", b, w, first, p)
			}
			told, open = told+size(p.a), open+size(p.b&^p.a)
		}
	}
	if min(told, alone, open) < 500 {
		t.Error("too few stars of a kind:", told, alone, open)
	}
}

// P6.9: with the shift turned round, and both zones exchanged, the same is told.
func TestTurnedRound(t *testing.T) {
	r := random()
	clashes, surely := 0, 0
	for range 900 {
		b := anyWorld(r)
		other := copyOf(b)
		other.First, other.Second = other.Second, other.First
		other.East, other.North = span(-b.East.Hi, -b.East.Lo), span(-b.North.Hi, -b.North.Lo)
		for _, s := range shifts(b) {
			back := two{-s.a, -s.b}
			same(t, "Possible", count(t, other, back), count(t, b, s))
			for first := range b.First {
				for second := range b.Second {
					same(t, "Same", canBeSame(t, other, second, first, back), canBeSame(t, b, first, second, s))
				}
			}
		}
		x, y := tellAll(b), tellAll(other)
		same(t, "errors", y.errors, x.errors)
		if !x.isPossible() {
			clashes++
			same(t, "Clash", size(y.clash.a)+size(y.clash.b), size(x.clash.a)+size(x.clash.b))
			continue
		}
		same(t, "Shift", [2]api.Span{y.east, y.north}, [2]api.Span{span(-x.east.Hi, -x.east.Lo), span(-x.north.Hi, -x.north.Lo)})
		same(t, "Alone", y.alone, two{x.alone.b, x.alone.a})
		same(t, "Best", size(paired(y.joining).a), size(paired(x.joining).a))
		for first, p := range x.pairs {
			for second, q := range y.pairs {
				same(t, "Pairs, surely", has(q.a, first), has(p.a, second))
				same(t, "Pairs, can", has(q.b, first), has(p.b, second))
			}
			surely += size(p.a)
		}
	}
	if clashes < 100 || surely < 300 {
		t.Error("too few of a kind:", clashes, surely)
	}
}

// narrower returns a span within another one.
func narrower(r *rand.Rand, s api.Span) api.Span {
	n := pick(r, s.Lo, s.Hi)
	if r.IntN(3) > 0 {
		return s
	}
	return span(pick(r, s.Lo, n), pick(r, n, s.Hi))
}

// P6.9, P2: with narrower spans, or a star more that is Sure, no shift becomes possible, and nothing is told less exactly.
func TestKnownBetter(t *testing.T) {
	r := random()
	lost, better := 0, 0
	for range 900 {
		b := anyWorld(r)
		more := copyOf(b)
		more.East, more.North = narrower(r, b.East), narrower(r, b.North)
		for _, stars := range [][]api.Edge{more.First, more.Second} {
			for n, s := range stars {
				stars[n] = star(narrower(r, s.East), narrower(r, s.North), narrower(r, s.Bright), s.Sure || r.IntN(9) == 0)
			}
		}
		for _, s := range shifts(more) {
			if is, was := count(t, more, s), count(t, b, s); is > was {
				t.Fatal("Possible", b, more, s, is, was)
			}
		}
		x, y := tellAll(b), tellAll(more)
		if !y.isPossible() {
			if x.isPossible() {
				lost++
			}
			continue
		}
		if !x.isPossible() || !in(y.east.Lo, x.east) || !in(y.east.Hi, x.east) || !in(y.north.Lo, x.north) || !in(y.north.Hi, x.north) || !holds(y.alone, x.alone) {
			t.Fatal(b, more, x, y)
		}
		if size(paired(y.joining).a) > size(paired(x.joining).a) {
			t.Fatal("Best", b, more, x, y)
		}
		for first, p := range y.pairs {
			if q := x.pairs[first]; q.a&^p.a != 0 || p.b&^q.b != 0 {
				t.Fatal("Pairs", b, more, first, p, q)
			} else if p != q {
				better++
			}
		}
	}
	if lost < 50 || better < 100 {
		t.Error("too few of a kind:", lost, better)
	}
}

// P6.9: if all stars of a zone are farther to the east by as much, shifts are by as much less, or more.
func TestFartherEast(t *testing.T) {
	r := random()
	moved := 0
	for range 900 {
		b := anyWorld(r)
		by := [2]two{{pick(r, -30, 30), pick(r, -30, 30)}, {pick(r, -30, 30), pick(r, -30, 30)}}
		other := copyOf(b)
		for zone, stars := range [][]api.Edge{other.First, other.Second} {
			for n := range stars {
				s := &stars[n]
				s.East, s.North = span(s.East.Lo+by[zone].a, s.East.Hi+by[zone].a), span(s.North.Lo+by[zone].b, s.North.Hi+by[zone].b)
			}
		}
		east, north := by[0].a-by[1].a, by[0].b-by[1].b
		other.East, other.North = span(b.East.Lo+east, b.East.Hi+east), span(b.North.Lo+north, b.North.Hi+north)
		if min(other.East.Lo, other.North.Lo) < -20 || max(other.East.Hi, other.North.Hi) > 20 {
			continue
		}
		moved++
		for _, s := range shifts(b) {
			same(t, "Possible", count(t, other, two{s.a + east, s.b + north}), count(t, b, s))
		}
		x, y := tellAll(b), tellAll(other)
		if x.isPossible() {
			x.east, x.north = span(x.east.Lo+east, x.east.Hi+east), span(x.north.Lo+north, x.north.Hi+north)
			x.best = two{x.best.a + east, x.best.b + north}
		}
		if !reflect.DeepEqual(x, y) {
			t.Fatal(b, other, x, y)
		}
	}
	if moved < 100 {
		t.Error("too few are moved:", moved)
	}
}

// P12: the order of stars makes no difference but to their numbers. Of several sets, or joinings, that are as good, another
// one may be the first.
func TestOrder(t *testing.T) {
	r := random()
	for range 900 {
		b := anyWorld(r)
		first, second := r.Perm(len(b.First)), r.Perm(len(b.Second))
		other := otherOrder(b, first, second)
		for _, s := range shifts(b) {
			same(t, "Possible", count(t, other, s), count(t, b, s))
		}
		x, y := tellAll(b), tellAll(other)
		same(t, "errors", y.errors, x.errors)
		same(t, "Shift", [2]api.Span{y.east, y.north}, [2]api.Span{x.east, x.north})
		same(t, "Alone", y.alone, two{renumbered(x.alone.a, first), renumbered(x.alone.b, second)})
		same(t, "Best", y.best, x.best)
		same(t, "Best", size(paired(y.joining).a), size(paired(x.joining).a))
		same(t, "Clash", size(y.clash.a)+size(y.clash.b), size(x.clash.a)+size(x.clash.b))
		for n, p := range x.pairs {
			same(t, "Pairs", y.pairs[first[n]], two{renumbered(p.a, second), renumbered(p.b, second)})
		}
	}
}

// Terms: if East and North change places, so do they in what is told.
func TestDirectionsChangePlaces(t *testing.T) {
	r := random()
	for range 600 {
		b := anyWorld(r)
		other := column(b)
		x, y := tellAll(b), tellAll(other)
		same(t, "Shift", [2]api.Span{y.north, y.east}, [2]api.Span{x.east, x.north})
		same(t, "Best", size(paired(y.joining).a), size(paired(x.joining).a))
		if y.alone != x.alone || y.clash != x.clash || y.errors != x.errors || !slices.Equal(y.pairs, x.pairs) {
			t.Fatal(b, x, y)
		}
		for _, s := range shifts(b) {
			same(t, "Possible", count(t, other, two{s.b, s.a}), count(t, b, s))
		}
	}
}

// P6.6: the joining of Best is one with its shift, no joining has more pairs, and no shift before it as many.
func TestBestIsBest(t *testing.T) {
	r := random()
	later := 0
	for range 600 {
		b := anyBorder(r, 3)
		east, north, joining, e := border.Best(b)
		if e != api.OK {
			continue
		}
		sure := sureStars(b)
		for _, s := range shifts(b) {
			at := slices.Compare([]int{s.a, s.b}, []int{east, north})
			if at < 0 {
				later++
			}
			for _, j := range slowJoinings(b, s) {
				more := size(paired(j).a) - size(paired(joining).a)
				if holds(paired(j), sure) && (more > 0 || more == 0 && (at < 0 || at == 0 && slices.Compare(j, joining) < 0)) {
					t.Fatal(b, s, j, east, north, joining)
				}
			}
		}
		if !slices.ContainsFunc(slowJoinings(b, two{east, north}), func(j []int) bool { return slices.Equal(j, joining) }) || !holds(paired(joining), sure) {
			t.Fatal(b, east, north, joining)
		}
	}
	if later < 300 {
		t.Error("too few shifts before the best one:", later)
	}
}

// P6.7: if the stars of a clash alone are Sure, no shift is possible; each one of them is needed for that.
func TestClashIsNeeded(t *testing.T) {
	r := random()
	clashes := 0
	for range 900 {
		b := anyWorld(r)
		first, second, e := border.Clash(b)
		if e != api.OK {
			continue
		}
		clashes++
		if !holds(sureStars(b), two{first, second}) {
			t.Fatal(b, first, second)
		}
		with := func(first, second int) api.Errno {
			other := copyOf(b)
			for n := range other.First {
				other.First[n].Sure = has(first, n)
			}
			for n := range other.Second {
				other.Second[n].Sure = has(second, n)
			}
			_, _, e := border.Shift(other)
			return e
		}
		same(t, "these alone", with(first, second), api.ErrNone)
		for n := range 6 {
			if has(first, n) {
				same(t, "without one of First", with(first&^(1<<n), second), api.OK)
			}
			if has(second, n) {
				same(t, "without one of Second", with(first, second&^(1<<n)), api.OK)
			}
		}
	}
	if clashes < 100 {
		t.Error("too few clashes:", clashes)
	}
}
