package blink_test

import (
	"math/rand/v2"
	"reflect"
	"slices"
	"testing"

	"zoneworks/api"
	"zoneworks/image"
)

// place is where a body truly is, and how large.
type place struct{ x, y, size int }

// world is what is true of a blink: for each star of First its twin, where it is on First, and where on Second.
type world struct {
	twins         []int
	first, second []place
}

// triple adds the three images of a star to a sheet; there is room for three stars, far from one another.
func triple(r *rand.Rand, s *api.Sheet, p place, width int) {
	x, y, size := p.x, p.y, p.size
	s.Spots = append(s.Spots, seen(r, x, y, size, width))
	for n, step := range s.Steps {
		s.Spots = append(s.Spots, seen(r, x+pick(r, step.X.Lo, step.X.Hi), y+pick(r, step.Y.Lo, step.Y.Hi), size-pick(r, s.Fades[n].Lo, s.Fades[n].Hi), width))
	}
}

// sheetOf returns a sheet of bodies: each of them has one image, or three if they are far from one another.
func sheetOf(r *rand.Rand, bodies []place, far bool, width int) api.Sheet {
	if !far {
		s := single()
		for _, p := range bodies {
			s.Spots = append(s.Spots, seen(r, p.x, p.y, p.size, width))
		}
		return s
	}
	s := api.Sheet{
		Steps: [2]api.Step{{X: span(20, 22), Y: span(-1, 1)}, {X: span(-1, 1), Y: span(-33, -30)}},
		Fades: [2]api.Span{span(2, 3), span(5, 6)},
		Limit: 10,
	}
	for _, p := range bodies {
		triple(r, &s, p, width)
	}
	return s
}

// makeWorld returns a blink of bodies that are on one plate, or on both, and what is true of it.
func makeWorld(r *rand.Rand) (api.Blink, world) {
	far := r.IntN(3) == 0
	b := api.Blink{Move: pick(r, 0, 12), Vary: pick(r, 0, 12)}
	b.Still, b.Same = pick(r, 0, b.Move), pick(r, 0, b.Vary)
	var w world
	reach, most := []int{4, 9, 40}[r.IntN(3)], pick(r, 0, 5)
	if far {
		most = 3
	}
	for n := range most {
		p := place{500 + pick(r, -reach, reach), 500 + pick(r, -reach, reach), pick(r, 40, 90)}
		if far {
			p.x += 1000 * n
		}
		// Each number of a body stays, or changes by as much as can be, or so.
		q := place{p.x + pick(r, -1, 1)*pick(r, 0, b.Move), p.y + pick(r, -1, 1)*pick(r, 0, b.Move), p.size + pick(r, -1, 1)*pick(r, 0, b.Vary)}
		switch r.IntN(4) {
		case 0:
			w.first, w.twins = append(w.first, p), append(w.twins, no)
			b.Gone++
		case 1:
			w.second = append(w.second, q)
			b.Gone++
		default:
			w.first, w.twins = append(w.first, p), append(w.twins, len(w.second))
			w.second = append(w.second, q)
		}
	}
	width := pick(r, 0, 3)
	b.First, b.Second = sheetOf(r, w.first, far, width), sheetOf(r, w.second, far, width)
	b.Gone += pick(r, 0, 2)
	return b, w
}

// stars returns how many stars a sheet is told to have.
func stars(s api.Sheet) int {
	trails, _ := image.Fewest(s)
	return len(trails)
}

// P7.9, P2: what is true is within what is told.
func TestTruthIsWithin(t *testing.T) {
	r := random()
	moved, varied, alone, open, trails := 0, 0, 0, 0, 0
	for range 1500 {
		b, w := makeWorld(r)
		if stars(b.First) != len(w.first) || stars(b.Second) != len(w.second) {
			t.Fatal("the stars are not told as they are", b, w)
		}
		if len(b.First.Spots) > len(w.first) {
			trails++
		}
		x := tellAll(b)
		if !x.isJoined() {
			t.Fatal("there is no joining", b, w)
		}
		truth := paired(w.twins)
		if size(paired(x.fewest).a) < size(truth.a) || x.gone.a&truth.a != 0 || x.gone.b&truth.b != 0 {
			t.Fatal("Fewest, Gone", b, w, x)
		}
		alone += size(x.gone.a) + size(x.gone.b)
		var didMove, didVary int
		for first, second := range w.twins {
			if second == no {
				continue
			}
			p, q, is := w.first[first], w.second[second], api.BlinkStill|api.BlinkEqual
			if max(p.x-q.x, q.x-p.x, p.y-q.y, q.y-p.y) > b.Still {
				didMove, is = didMove|1<<first, is^(api.BlinkStill|api.BlinkMoved)
			}
			if max(p.size-q.size, q.size-p.size) > b.Same {
				didVary, is = didVary|1<<first, is^(api.BlinkEqual|api.BlinkVaried)
			}
			if x.can[first][second]&is != is {
				t.Fatal("Can", b, w, first, second, is)
			}
		}
		if x.moved.a&^didMove != 0 || didMove&^x.moved.b != 0 || x.varied.a&^didVary != 0 || didVary&^x.varied.b != 0 {
			t.Fatal("Moved, Varied", b, w, x)
		}
		moved, varied = moved+size(x.moved.a), varied+size(x.varied.a)
		open += size(x.moved.b&^x.moved.a) + size(x.varied.b&^x.varied.a)
	}
	if min(moved, varied, alone, open, trails) < 200 {
		t.Error("too few blinks of a kind:", moved, varied, alone, open, trails)
	}
}

// anyWorld returns a blink of which what is true is of no matter.
func anyWorld(r *rand.Rand) api.Blink {
	if r.IntN(2) == 0 {
		return anyBlink(r, 4)
	}
	b, _ := makeWorld(r)
	b.Gone = pick(r, 0, b.Gone)
	return b
}

// holds returns whether sets of stars contain others.
func holds(all, some two) bool { return some.a&^all.a == 0 && some.b&^all.b == 0 }

// P7.9: with a greater Move, Vary or Gone there are no fewer joinings.
func TestMoreCanBe(t *testing.T) {
	r := random()
	more, first := 0, 0
	for range 1000 {
		b := anyWorld(r)
		other := b
		switch r.IntN(3) {
		case 0:
			other.Move += pick(r, 1, 9)
		case 1:
			other.Vary += pick(r, 1, 9)
		case 2:
			other.Gone = min(18, b.Gone+pick(r, 1, 9))
		}
		x, y := tellAll(b), tellAll(other)
		if x.count > y.count || x.isJoined() && (!y.isJoined() || !holds(x.gone, y.gone) || size(paired(x.fewest).a) > size(paired(y.fewest).a)) {
			t.Fatal(b, other, x, y)
		}
		for f, row := range x.can {
			for s, bits := range row {
				if bits&^y.can[f][s] != 0 {
					t.Fatal("Can", b, other, f, s)
				}
			}
		}
		if x.count < y.count {
			more++
			if x.count == 0 {
				first++
			}
		}
	}
	if more < 200 || first < 100 {
		t.Error("too few blinks of a kind:", more, first)
	}
}

// P7.9: if both plates change places, so do the stars.
func TestPlatesChangePlaces(t *testing.T) {
	r := random()
	surely := 0
	for range 1000 {
		b := anyWorld(r)
		x, y := tellAll(b), tellAll(turned(b))
		same(t, "errors", y.errors, x.errors)
		same(t, "Count", y.count, x.count)
		same(t, "Gone", y.gone, two{x.gone.b, x.gone.a})
		same(t, "Fewest", size(paired(y.fewest).a), size(paired(x.fewest).a))
		if !slices.Equal(x.first, y.second) || !slices.Equal(x.second, y.first) {
			t.Fatal("Stars", b, x, y)
		}
		for f, row := range x.can {
			for s, bits := range row {
				same(t, "Can", y.can[s][f], bits)
			}
		}
		// If a star has one twin alone, which has none but this one, and surely has it, the same is told of both.
		for f, row := range x.can {
			s := slices.IndexFunc(row, func(bits int) bool { return bits != 0 })
			if !x.isJoined() || s < 0 || size(twins(row)) > 1 || size(twins(y.can[s])) > 1 {
				continue
			}
			surely++
			same(t, "Moved, surely", has(y.moved.a, s), has(x.moved.a, f))
			same(t, "Moved, can", has(y.moved.b, s), has(x.moved.b, f))
			same(t, "Varied, surely", has(y.varied.a, s), has(x.varied.a, f))
			same(t, "Varied, can", has(y.varied.b, s), has(x.varied.b, f))
		}
	}
	if surely < 200 {
		t.Error("too few stars with one twin:", surely)
	}
}

// twins returns the set of the stars that can be one body with a star.
func twins(row []int) int {
	set := 0
	for n, bits := range row {
		if bits != 0 {
			set |= 1 << n
		}
	}
	return set
}

// narrower returns a span within another one.
func narrower(r *rand.Rand, s api.Span) api.Span {
	n := pick(r, s.Lo, s.Hi)
	if r.IntN(2) > 0 {
		return s
	}
	return span(pick(r, s.Lo, n), pick(r, n, s.Hi))
}

// nearby returns a blink of single stars, which are known so well that each image is a star.
func nearby(r *rand.Rand) api.Blink {
	for {
		b := anyWorld(r)
		if b.First.Limit == 5 && b.Second.Limit == 5 {
			return b
		}
	}
}

// P2: with narrower spans no joining is more, and nothing is told less exactly.
func TestKnownBetter(t *testing.T) {
	r := random()
	lost, better := 0, 0
	for range 1000 {
		b := nearby(r)
		more := copyOf(b)
		for _, s := range []api.Sheet{more.First, more.Second} {
			for n, x := range s.Spots {
				s.Spots[n] = spot(narrower(r, x.X), narrower(r, x.Y), narrower(r, x.Size))
			}
		}
		x, y := tellAll(b), tellAll(more)
		if y.count > x.count {
			t.Fatal("Count", b, more, x, y)
		}
		if !y.isJoined() {
			if x.isJoined() {
				lost++
			}
			continue
		}
		if !holds(y.gone, x.gone) || !holds(two{y.moved.a, x.moved.b}, two{x.moved.a, y.moved.b}) || !holds(two{y.varied.a, x.varied.b}, two{x.varied.a, y.varied.b}) {
			t.Fatal(b, more, x, y)
		}
		if x.moved != y.moved || x.varied != y.varied || x.gone != y.gone {
			better++
		}
	}
	if lost < 20 || better < 50 {
		t.Error("too few blinks of a kind:", lost, better)
	}
}

// Terms: if all stars of both plates are farther, or larger, by as much, nothing changes; and X and Y are alike.
func TestFarther(t *testing.T) {
	r := random()
	for range 700 {
		b := anyWorld(r)
		x := tellAll(b)
		if y := tellAll(across(b)); !reflect.DeepEqual(x, y) {
			t.Fatal("across", b, x, y)
		}
		other := copyOf(b)
		byX, byY, bySize := pick(r, -40, 900), pick(r, -40, 900), pick(r, 0, 9)
		for _, s := range []*api.Sheet{&other.First, &other.Second} {
			s.Limit += bySize
			for n, x := range s.Spots {
				s.Spots[n] = spot(span(x.X.Lo+byX, x.X.Hi+byX), span(x.Y.Lo+byY, x.Y.Hi+byY), span(x.Size.Lo+bySize, x.Size.Hi+bySize))
			}
		}
		if y := tellAll(other); !reflect.DeepEqual(x, y) {
			t.Fatal("farther", b, other, x, y)
		}
	}
}

// renumbered returns a set of stars that have other numbers.
func renumbered(set int, to []int) int {
	other := 0
	for n, now := range to {
		if has(set, n) {
			other |= 1 << now
		}
	}
	return other
}

// P12: the order of stars makes no difference but to their numbers; of several joinings with as many pairs another one may
// be the first.
func TestOrder(t *testing.T) {
	r := random()
	for range 700 {
		b := nearby(r)
		first, second := r.Perm(len(b.First.Spots)), r.Perm(len(b.Second.Spots))
		other := copyOf(b)
		for n, to := range first {
			other.First.Spots[to] = b.First.Spots[n]
		}
		for n, to := range second {
			other.Second.Spots[to] = b.Second.Spots[n]
		}
		x, y := tellAll(b), tellAll(other)
		same(t, "errors", y.errors, x.errors)
		same(t, "Count", y.count, x.count)
		same(t, "Fewest", size(paired(y.fewest).a), size(paired(x.fewest).a))
		same(t, "Moved", y.moved, two{renumbered(x.moved.a, first), renumbered(x.moved.b, first)})
		same(t, "Varied", y.varied, two{renumbered(x.varied.a, first), renumbered(x.varied.b, first)})
		same(t, "Gone", y.gone, two{renumbered(x.gone.a, first), renumbered(x.gone.b, second)})
		for f, row := range x.can {
			for s, bits := range row {
				same(t, "Can", y.can[first[f]][second[s]], bits)
			}
		}
	}
}
