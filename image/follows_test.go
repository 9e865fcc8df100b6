package image_test

import (
	"math/rand/v2"
	"reflect"
	"slices"
	"testing"

	"zoneworks/api"
	"zoneworks/image"
)

// origin is of which star an image truly is, and in which exposure; star is none for a flaw.
type origin struct{ star, exposure int }

// flaw is no star.
const flaw = -1

// world is what is true: stars, each an X, a Y and a size; and where images come from.
type world struct {
	stars   [][3]int
	origins []origin
}

// around returns a span that contains a number, within lo to hi.
func around(r *rand.Rand, n, width, lo, hi int) api.Span {
	return span(max(lo, n-pick(r, 0, width)), min(hi, n+pick(r, 0, width)))
}

// exposed returns a sheet without images, which is shifted by as much, at most.
func exposed(r *rand.Rand, shift int) api.Sheet {
	s := api.Sheet{Limit: pick(r, 0, 300)}
	for k := range s.Steps {
		s.Steps[k] = api.Step{X: part(r, -shift, shift, shift/2), Y: part(r, -shift, shift, shift/2)}
		s.Fades[k] = part(r, 0, 300, 60)
	}
	return s
}

// add adds an image of the world to the sheet, known within a width.
func (w *world) add(r *rand.Rand, s *api.Sheet, width int, from origin, x, y, size int) {
	w.origins = append(w.origins, from)
	s.Spots = append(s.Spots, spot(around(r, x, width, 0, api.ImagePlace), around(r, y, width, 0, api.ImagePlace), around(r, size, 60, 0, api.ImageSize)))
}

// addStar adds a star, and its images, to the world.
func (w *world) addStar(r *rand.Rand, s *api.Sheet, shift int) {
	const middle = api.ImagePlace / 2
	x, y, size := middle+pick(r, -shift, shift), middle+pick(r, -shift, shift), pick(r, s.Limit, api.ImageSize)
	star := len(w.stars)
	w.stars = append(w.stars, [3]int{x, y, size})
	w.add(r, s, shift/2, origin{star, 0}, x, y, size)
	for k := range s.Steps {
		there := size - pick(r, s.Fades[k].Lo, s.Fades[k].Hi)
		if there >= s.Limit {
			x1, y1 := x+pick(r, s.Steps[k].X.Lo, s.Steps[k].X.Hi), y+pick(r, s.Steps[k].Y.Lo, s.Steps[k].Y.Hi)
			w.add(r, s, shift/2, origin{star, k + 1}, x1, y1, there)
		}
	}
}

// makeWorld returns a sheet of stars and flaws, in any order, with at least as many Flaws.
func makeWorld(r *rand.Rand) (api.Sheet, world) {
	shift := []int{2, 40, 100_000}[r.IntN(3)]
	s, w := exposed(r, shift), world{}
	for range pick(r, 0, 3) {
		w.addStar(r, &s, shift)
	}
	flaws := pick(r, 0, min(3, api.ImageSpots-len(s.Spots)))
	for range flaws {
		w.add(r, &s, shift, origin{star: flaw}, api.ImagePlace/2+pick(r, -shift, shift), api.ImagePlace/2+pick(r, -shift, shift), pick(r, 0, api.ImageSize))
	}
	s.Flaws = pick(r, flaws, api.ImageSpots)
	r.Shuffle(len(s.Spots), func(i, j int) {
		s.Spots[i], s.Spots[j] = s.Spots[j], s.Spots[i]
		w.origins[i], w.origins[j] = w.origins[j], w.origins[i]
	})
	return s, w
}

// P2.8, P2, P6: what is true is told, or is open; each star is where, and as large as, is told.
func TestTruthIsWithin(t *testing.T) {
	r := random()
	sure, open := 0, 0
	for range 1500 {
		s, w := makeWorld(r)
		stars, flaws, e := image.Tell(s)
		if e != api.OK {
			t.Fatal(s, w, e)
		}
		sure, open = sure+size(stars|flaws), open+len(s.Spots)-size(stars|flaws)
		many, e := image.Stars(s)
		if e != api.OK || !in(len(w.stars), many) {
			t.Fatal(s, w, many, e)
		}
		for i, from := range w.origins {
			if from.star == flaw && stars&(1<<i) != 0 || from.star != flaw && flaws&(1<<i) != 0 {
				t.Fatal(s, w, i, stars, flaws)
			}
			if from.star == flaw || from.exposure != 0 {
				continue
			}
			x, y, size, e := image.Where(s, i)
			if is := w.stars[from.star]; e != api.OK || !in(is[0], x) || !in(is[1], y) || !in(is[2], size) {
				t.Fatal(s, w, i, x, y, size, e)
			}
		}
	}
	if min(sure, open) < 1000 {
		t.Error("too few images of a kind:", sure, open)
	}
}

// noLessOpen fails unless what a sheet tells is at least as open as what another one does.
func noLessOpen(t *testing.T, narrow, wide told) {
	t.Helper()
	if wide.count < narrow.count || wide.needs > narrow.needs {
		t.Fatal("Count, Needs", narrow, wide)
	}
	if narrow.count == 0 {
		return
	}
	if wide.stars&^narrow.stars != 0 || wide.flaws&^narrow.flaws != 0 {
		t.Fatal("Tell", narrow, wide)
	}
	if !within(narrow.many, wide.many) {
		t.Fatal("Stars", narrow, wide)
	}
	for i, p := range narrow.where {
		q := wide.where[i]
		if p.e == api.OK && (q.e != api.OK || !within(p.x, q.x) || !within(p.y, q.y) || !within(p.size, q.size)) {
			t.Fatal("Where", p, q)
		}
	}
}

// P2.8: with a greater Flaws nothing is less open; the fewest flaws stay the same.
func TestMoreFlaws(t *testing.T) {
	r := random()
	for i := range 600 {
		s := small(r)
		if i%3 == 0 {
			s, _ = makeWorld(r)
		}
		s.Flaws = 0
		narrow := tellAll(s)
		for s.Flaws = 1; s.Flaws <= api.ImageSpots; s.Flaws++ {
			wide := tellAll(s)
			noLessOpen(t, narrow, wide)
			if narrow.needs != wide.needs || narrow.count > 0 && !slices.Equal(narrow.fewest, wide.fewest) {
				t.Fatal(s, narrow, wide)
			}
			narrow = wide
		}
	}
}

// wider returns a span that contains another one, within lo to hi.
func wider(r *rand.Rand, s api.Span, lo, hi int) api.Span {
	return span(max(lo, s.Lo-pick(r, 0, 1)), min(hi, s.Hi+pick(r, 0, 1)))
}

// P2: what is known better is never told with wider bounds.
func TestKnownBetter(t *testing.T) {
	r := random()
	for range 600 {
		s := small(r)
		more := copyOf(s)
		for k := range more.Steps {
			more.Steps[k] = api.Step{X: wider(r, s.Steps[k].X, -10, 10), Y: wider(r, s.Steps[k].Y, -10, 10)}
			more.Fades[k] = wider(r, s.Fades[k], 0, 100)
		}
		for i, p := range s.Spots {
			more.Spots[i] = spot(wider(r, p.X, 0, 100), wider(r, p.Y, 0, 100), wider(r, p.Size, 0, 100))
		}
		noLessOpen(t, tellAll(s), tellAll(more))
	}
}

// renumbered returns a set of images that have other numbers.
func renumbered(set int, to []int) int {
	other := 0
	for i, n := range to {
		if set&(1<<i) != 0 {
			other |= 1 << n
		}
	}
	return other
}

// P2.8, P12: if images are told in another order, only their numbers change.
func TestAnotherOrder(t *testing.T) {
	r := random()
	for i := range 900 {
		s := small(r)
		if i%3 == 0 {
			s, _ = makeWorld(r)
		}
		to := r.Perm(len(s.Spots))
		other := copyOf(s)
		for i, n := range to {
			other.Spots[n] = s.Spots[i]
		}
		want, got := tellAll(s), tellAll(other)
		where := slices.Clone(want.where)
		for i, n := range to {
			where[n] = want.where[i]
		}
		want.stars, want.flaws, want.where = renumbered(want.stars, to), renumbered(want.flaws, to), where
		// Which of the ways with the fewest flaws is the first one depends on numbers; how many images it has does not.
		if size(covered(got.fewest)) != size(covered(want.fewest)) {
			t.Fatal(s, to, got.fewest, want.fewest)
		}
		got.fewest, want.fewest = nil, nil
		if !reflect.DeepEqual(got, want) {
			t.Fatalf("%+v %v: %+v, not %+v", s, to, got, want)
		}
	}
}

// farther returns a span that is farther to one side.
func farther(s api.Span, by int) api.Span { return span(s.Lo+by, s.Hi+by) }

// P2.8: if all images are farther to one side, or to another one, only places are.
func TestFartherToOneSide(t *testing.T) {
	r := random()
	for range 600 {
		s := small(r)
		x, y := pick(r, 0, 1<<20-20), pick(r, 0, 1<<20-20)
		other := copyOf(s)
		for i, p := range s.Spots {
			other.Spots[i] = spot(farther(p.X, x), farther(p.Y, y), p.Size)
		}
		want, got := tellAll(s), tellAll(other)
		for i, p := range want.where {
			if p.e == api.OK {
				want.where[i].x, want.where[i].y = farther(p.x, x), farther(p.y, y)
			}
		}
		if !reflect.DeepEqual(got, want) {
			t.Fatalf("%+v %d %d: %+v, not %+v", s, x, y, got, want)
		}
	}
}
