package border_test

import (
	"math/bits"
	"math/rand/v2"
	"slices"
	"testing"

	"zoneworks/api"
	"zoneworks/border"
)

const no = api.NoEdge

func span(lo, hi int) api.Span { return api.Span{Lo: lo, Hi: hi} }

// only is the span of one number.
func only(n int) api.Span { return span(n, n) }

// star is a star, Sure or not.
func star(east, north, bright api.Span, sure bool) api.Edge {
	return api.Edge{East: east, North: north, Bright: bright, Sure: sure}
}

// example is the border of the chapter, with changes.
func example(changes ...func(b *api.Border)) api.Border {
	b := api.Border{
		East: span(-5, 5), North: span(-5, 5),
		First: []api.Edge{
			star(span(100, 101), span(50, 50), span(500, 520), true),
			star(span(200, 201), span(60, 61), span(300, 310), true),
			star(span(300, 300), span(40, 40), span(800, 810), false),
		},
		Second: []api.Edge{
			star(span(98, 99), span(51, 52), span(510, 530), true),
			star(span(198, 198), span(62, 62), span(305, 315), false),
			star(span(250, 250), span(10, 10), span(100, 120), false),
		},
	}
	for _, change := range changes {
		change(&b)
	}
	return b
}

// first changes whether a star of First is Sure.
func first(star int, sure bool) func(b *api.Border) {
	return func(b *api.Border) { b.First[star].Sure = sure }
}

// second changes whether a star of Second is Sure.
func second(star int, sure bool) func(b *api.Border) {
	return func(b *api.Border) { b.Second[star].Sure = sure }
}

// at is stars that are known exactly, each at an east, and are not Sure.
func at(easts ...int) []api.Edge {
	var list []api.Edge
	for _, east := range easts {
		list = append(list, star(only(east), only(0), only(0), false))
	}
	return list
}

// surely is the same stars, all of which are Sure.
func surely(stars []api.Edge) []api.Edge {
	list := slices.Clone(stars)
	for n := range list {
		list[n].Sure = true
	}
	return list
}

// row is a border with shifts to the east alone.
func row(east api.Span, first, second []api.Edge) api.Border {
	return api.Border{East: east, First: first, Second: second}
}

// column is a border whose norths are what its easts were.
func column(b api.Border) api.Border {
	b = copyOf(b)
	b.East, b.North = b.North, b.East
	for _, stars := range [][]api.Edge{b.First, b.Second} {
		for n, s := range stars {
			stars[n].East, stars[n].North = s.North, s.East
		}
	}
	return b
}

// wide is a border of so many stars with all shifts, and in which all stars can be the same.
func wide(first, second int) api.Border {
	sky := span(-api.BorderSky, api.BorderSky)
	all := star(sky, sky, span(0, api.BorderBright), false)
	shifts := span(-api.BorderShift, api.BorderShift)
	return api.Border{East: shifts, North: shifts, First: slices.Repeat([]api.Edge{all}, first), Second: slices.Repeat([]api.Edge{all}, second)}
}

// two are two numbers, or sets, that are told together.
type two struct{ a, b int }

// told is all that the package tells of a border, but for Same and Possible; pairs is by the stars of First.
type told struct {
	east, north api.Span
	pairs       []two
	alone       two
	best        two
	joining     []int
	clash       two
	errors      [4]api.Errno
}

// tellAll calls all functions that ask something of a whole border; it makes no difference between nil and empty lists.
func tellAll(b api.Border) told {
	var x told
	x.east, x.north, x.errors[0] = border.Shift(b)
	for n := range b.First {
		var p two
		var e api.Errno
		p.a, p.b, e = border.Pairs(b, n)
		if e != x.errors[0] {
			panic("Pairs has another error than Shift")
		}
		x.pairs = append(x.pairs, p)
	}
	x.alone.a, x.alone.b, x.errors[1] = border.Alone(b)
	x.best.a, x.best.b, x.joining, x.errors[2] = border.Best(b)
	x.joining = append([]int{}, x.joining...)
	x.clash.a, x.clash.b, x.errors[3] = border.Clash(b)
	return x
}

// isPossible returns whether some shift is.
func (x told) isPossible() bool { return x.errors[0] == api.OK }

// shifts returns all shifts of a border, in order.
func shifts(b api.Border) []two {
	var all []two
	for east := b.East.Lo; east <= b.East.Hi; east++ {
		for north := b.North.Lo; north <= b.North.Hi; north++ {
			all = append(all, two{east, north})
		}
	}
	return all
}

// canBeSame asks Same, and fails if it refuses.
func canBeSame(t *testing.T, b api.Border, first, second int, with two) bool {
	t.Helper()
	is, e := border.Same(b, first, second, with.a, with.b)
	same(t, "the error of Same", e, api.OK)
	return is
}

// count asks Possible, and fails if it refuses.
func count(t *testing.T, b api.Border, with two) int {
	t.Helper()
	n, e := border.Possible(b, with.a, with.b)
	same(t, "the error of Possible", e, api.OK)
	return n
}

// copyOf returns a border that shares no memory with another one.
func copyOf(b api.Border) api.Border {
	b.First = append([]api.Edge{}, b.First...)
	b.Second = append([]api.Edge{}, b.Second...)
	return b
}

func in(n int, s api.Span) bool { return s.Lo <= n && n <= s.Hi }

func has(set, n int) bool { return set&(1<<n) != 0 }

func size(set int) int { return bits.OnesCount(uint(set)) }

// pick returns a number from lo to hi.
func pick(r *rand.Rand, lo, hi int) int { return lo + r.IntN(hi-lo+1) }

// part returns a span within lo to hi, at most as wide as that.
func part(r *rand.Rand, lo, hi, width int) api.Span {
	n := pick(r, lo, hi)
	return span(n, min(hi, n+pick(r, 0, width)))
}

// random returns generators whose numbers are always the same.
func random() *rand.Rand { return rand.New(rand.NewPCG(6, 6)) }

// around returns a span with a number in it, within lo to hi.
func around(r *rand.Rand, n, width, lo, hi int) api.Span {
	return span(max(lo, n-pick(r, 0, width)), min(hi, n+pick(r, 0, width)))
}

// kind is what stars are like that are made: how far they are from the middle, how exactly they are known, in how many
// brightnesses they are, and one of how many of them is Sure.
type kind struct{ reach, width, bright, sure int }

// anyKind returns a kind of stars: mostly so near to one another that several of them can be the same.
func anyKind(r *rand.Rand) kind {
	return kind{[]int{0, 1, 2, 3, 5}[r.IntN(5)], pick(r, 0, 2), pick(r, 0, 1), []int{1, 2, 4, 8}[r.IntN(4)]}
}

// stars returns from so many to so many stars.
func (k kind) stars(r *rand.Rand, least, most int) []api.Edge {
	const far = api.BorderSky
	var list []api.Edge
	for range pick(r, least, most) {
		east, north := around(r, pick(r, -k.reach, k.reach), k.width, -far, far), around(r, pick(r, -1, 1), k.width, -far, far)
		list = append(list, star(east, north, around(r, pick(r, 0, k.bright), 1, 0, api.BorderBright), r.IntN(k.sure) == 0))
	}
	return list
}

// anyBorder returns a border of so many stars in each zone, at most, and with few shifts.
func anyBorder(r *rand.Rand, most int) api.Border {
	k := anyKind(r)
	least := r.IntN(most + 1)
	first, second := k.stars(r, least, most), k.stars(r, least, most)
	return api.Border{East: around(r, pick(r, -2, 2), 2, -20, 20), North: around(r, pick(r, -1, 1), 1, -20, 20), First: first, Second: second}
}

// same fails unless both are the same.
func same[T comparable](t *testing.T, what string, got, want T) {
	t.Helper()
	if got != want {
		t.Errorf("%s: %v, not %v", what, got, want)
	}
}
