package blink_test

import (
	"math/bits"
	"math/rand/v2"
	"slices"
	"testing"

	"zoneworks/api"
	"zoneworks/blink"
)

const no = api.NoTwin

func span(lo, hi int) api.Span { return api.Span{Lo: lo, Hi: hi} }

// only is the span of one number.
func only(n int) api.Span { return span(n, n) }

func spot(x, y, size api.Span) api.Spot { return api.Spot{X: x, Y: y, Size: size} }

// single is a sheet on which each image is a star, if its size is from 5 to 104.
func single(spots ...api.Spot) api.Sheet {
	return api.Sheet{Fades: [2]api.Span{only(100), only(100)}, Limit: 5, Spots: spots}
}

// trails is the sheet of the chapter of images, on which there are a star with three images, one with two, and a flaw.
func trails(flaws int) api.Sheet {
	return api.Sheet{
		Steps: [2]api.Step{{X: span(20, 22), Y: span(0, 1)}, {X: span(0, 1), Y: span(30, 33)}},
		Fades: [2]api.Span{span(2, 3), span(5, 6)},
		Limit: 10,
		Flaws: flaws,
		Spots: []api.Spot{
			spot(span(100, 102), span(200, 201), span(20, 22)),
			spot(span(121, 123), span(200, 202), span(18, 19)),
			spot(span(101, 102), span(231, 233), span(15, 16)),
			spot(span(300, 301), span(50, 51), span(13, 14)),
			spot(span(320, 322), span(50, 51), span(10, 11)),
			spot(only(500), only(500), span(30, 40)),
		},
	}
}

// untold is a sheet with no way: an image that is too small for a star, and no flaws.
func untold() api.Sheet { return single(spot(only(5), only(5), only(4))) }

// example is the blink of the chapter, with changes.
func example(changes ...func(b *api.Blink)) api.Blink {
	b := api.Blink{
		First: single(
			spot(span(100, 101), only(200), span(30, 31)),
			spot(only(300), span(50, 52), only(40)),
			spot(only(400), only(400), only(20)),
		),
		Second: single(
			spot(span(100, 102), span(200, 201), span(30, 33)),
			spot(span(308, 309), only(51), only(41)),
			spot(only(600), only(600), only(20)),
		),
		Move: 10, Still: 2, Vary: 5, Same: 1, Gone: 2,
	}
	for _, change := range changes {
		change(&b)
	}
	return b
}

func withGone(n int) func(b *api.Blink) { return func(b *api.Blink) { b.Gone = n } }

// at is stars that are known exactly, each at an X, and all as large.
func at(xs ...int) []api.Spot {
	var list []api.Spot
	for _, x := range xs {
		list = append(list, spot(only(x), only(0), only(9)))
	}
	return list
}

// sized is stars that are known exactly, each of a size, and all at one place.
func sized(sizes ...int) []api.Spot {
	var list []api.Spot
	for _, size := range sizes {
		list = append(list, spot(only(7), only(7), only(size)))
	}
	return list
}

// row is a blink of stars that can move, but not vary.
func row(move, still, gone int, first, second []api.Spot) api.Blink {
	return api.Blink{First: single(first...), Second: single(second...), Move: move, Still: still, Gone: gone}
}

// scale is a blink of stars that can vary, but not move.
func scale(vary, equal, gone int, first, second []api.Spot) api.Blink {
	return api.Blink{First: single(first...), Second: single(second...), Vary: vary, Same: equal, Gone: gone}
}

// pair is a blink of one star of each sheet.
func pair(move, still, vary, equal int, first, second api.Spot) api.Blink {
	return api.Blink{First: single(first), Second: single(second), Move: move, Still: still, Vary: vary, Same: equal}
}

// wide is a blink of so many stars, all of which can be one body with one another, and all that a body can be.
func wide(first, second, gone int) api.Blink {
	all := spot(span(0, api.ImagePlace), span(0, api.ImagePlace), span(5, 104))
	return api.Blink{
		First:  single(slices.Repeat([]api.Spot{all}, first)...),
		Second: single(slices.Repeat([]api.Spot{all}, second)...),
		Move:   api.BlinkMove, Vary: api.ImageSize, Gone: gone,
	}
}

// turned is a blink whose plates have changed places.
func turned(b api.Blink) api.Blink {
	b = copyOf(b)
	b.First, b.Second = b.Second, b.First
	return b
}

// across is a blink whose X and Y have changed places.
func across(b api.Blink) api.Blink {
	b = copyOf(b)
	for _, s := range []*api.Sheet{&b.First, &b.Second} {
		for n, step := range s.Steps {
			s.Steps[n] = api.Step{X: step.Y, Y: step.X}
		}
		for n, x := range s.Spots {
			s.Spots[n] = spot(x.Y, x.X, x.Size)
		}
	}
	return b
}

// two are two sets that are told together.
type two struct{ a, b int }

// told is all that the package tells of a blink; can is by the stars of First, and of Second.
type told struct {
	first, second       []int
	can                 [][]int
	count               int
	fewest              []int
	moved, varied, gone two
	errors              [6]api.Errno
}

// tellAll calls all functions; it makes no difference between nil and empty lists.
func tellAll(b api.Blink) told {
	var x told
	x.first, x.second, x.errors[0] = blink.Stars(b)
	x.first, x.second = append([]int{}, x.first...), append([]int{}, x.second...)
	for first := range x.first {
		row := []int{}
		for second := range x.second {
			bits, e := blink.Can(b, first, second)
			if e != api.OK {
				panic("Can refuses stars that Stars told")
			}
			row = append(row, bits)
		}
		x.can = append(x.can, row)
	}
	x.count, x.errors[1] = blink.Count(b)
	x.fewest, x.errors[2] = blink.Fewest(b)
	x.fewest = append([]int{}, x.fewest...)
	x.moved.a, x.moved.b, x.errors[3] = blink.Moved(b)
	x.varied.a, x.varied.b, x.errors[4] = blink.Varied(b)
	x.gone.a, x.gone.b, x.errors[5] = blink.Gone(b)
	return x
}

// The errors of a blink that has joinings, of one that has none, and of one that cannot be told.
func (x told) isJoined() bool { return x.errors == [6]api.Errno{} }

func (x told) isRefused() bool {
	return x.errors == [6]api.Errno{2: api.ErrRefuse, 3: api.ErrRefuse, 4: api.ErrRefuse, 5: api.ErrRefuse}
}

func (x told) isUntold() bool {
	return x.errors == [6]api.Errno{api.ErrNone, api.ErrNone, api.ErrNone, api.ErrNone, api.ErrNone, api.ErrNone}
}

// can asks Can, and fails if it refuses.
func can(t *testing.T, b api.Blink, first, second int) int {
	t.Helper()
	bits, e := blink.Can(b, first, second)
	same(t, "the error of Can", e, api.OK)
	return bits
}

// count asks Count, and fails if it refuses.
func count(t *testing.T, b api.Blink) int {
	t.Helper()
	n, e := blink.Count(b)
	same(t, "the error of Count", e, api.OK)
	return n
}

// copyOf returns a blink that shares no memory with another one.
func copyOf(b api.Blink) api.Blink {
	b.First.Spots = append([]api.Spot{}, b.First.Spots...)
	b.Second.Spots = append([]api.Spot{}, b.Second.Spots...)
	return b
}

func has(set, n int) bool { return set&(1<<n) != 0 }

func size(set int) int { return bits.OnesCount(uint(set)) }

// paired returns the sets of the stars that are in a pair.
func paired(joining []int) two {
	var p two
	for first, second := range joining {
		if second != no {
			p.a |= 1 << first
			p.b |= 1 << second
		}
	}
	return p
}

// pick returns a number from lo to hi.
func pick(r *rand.Rand, lo, hi int) int { return lo + r.IntN(hi-lo+1) }

// around returns a span with a number in it, within lo to hi.
func around(r *rand.Rand, n, width, lo, hi int) api.Span {
	return span(max(lo, n-pick(r, 0, width)), min(hi, n+pick(r, 0, width)))
}

// random returns generators whose numbers are always the same.
func random() *rand.Rand { return rand.New(rand.NewPCG(7, 7)) }

// seen returns a star that is seen at its place, known within a width.
func seen(r *rand.Rand, x, y, size, width int) api.Spot {
	const far = api.ImagePlace
	return spot(around(r, x, width, 0, far), around(r, y, width, 0, far), around(r, size, width, 5, 104))
}

// anySheet returns a sheet of so many stars at most, which are so near to one another that several of them can be one body;
// or one with trails, and flaws, which perhaps has no way.
func anySheet(r *rand.Rand, most int) api.Sheet {
	if r.IntN(4) == 0 {
		s := trails(pick(r, 0, 3))
		s.Spots = s.Spots[:pick(r, 0, len(s.Spots))]
		return s
	}
	reach := []int{0, 1, 3, 6}[r.IntN(4)]
	width := pick(r, 0, 2)
	var spots []api.Spot
	for range pick(r, 0, most) {
		spots = append(spots, seen(r, 100+pick(r, 0, reach), 200+pick(r, 0, 1), 20+pick(r, 0, reach), width))
	}
	return single(spots...)
}

// anyBlink returns a blink of so many stars of each sheet, at most.
func anyBlink(r *rand.Rand, most int) api.Blink {
	b := api.Blink{First: anySheet(r, most), Second: anySheet(r, most), Move: pick(r, 0, 5), Vary: pick(r, 0, 6), Gone: pick(r, 0, 5)}
	b.Still, b.Same = pick(r, 0, b.Move), pick(r, 0, b.Vary)
	return b
}

// same fails unless both are the same.
func same[T comparable](t *testing.T, what string, got, want T) {
	t.Helper()
	if got != want {
		t.Errorf("%s: %v, not %v", what, got, want)
	}
}
