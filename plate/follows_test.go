package plate_test

import (
	"math/rand/v2"
	"reflect"
	"testing"

	"zoneworks/api"
	"zoneworks/plate"
)

// world is what is true: the scale, and along each direction the corner, and where stars stand.
type world struct {
	scale  int
	corner [2]int
	stands [2][]int
}

// place returns where a star truly is along a direction.
func (w world) place(direction, star int) int {
	return w.corner[direction] + floor(w.scale*w.stands[direction][star], 1000)
}

// stars returns where all stars of a world are.
func (w world) stars() [][2]int {
	var all [][2]int
	for i := range w.stands[0] {
		all = append(all, [2]int{w.place(0, i), w.place(1, i)})
	}
	return all
}

// measured returns a world, and a plate of it: all spans contain what is true, and are at most so wide on each side.
func measured(r *rand.Rand) (api.Plate, world) {
	sky := span(-1<<20, 1<<20)
	w := world{scale: pick(r, 1, 1000)}
	for i := range w.corner {
		w.corner[i] = pick(r, -1<<20, 1<<20-1<<15)
	}
	wide := []int{0, 1, 5, 500}[r.IntN(4)]
	p := api.Plate{Scale: around(r, w.scale, []int{0, 3, 1000}[r.IntN(3)], span(1, 1000))}
	for n := range pick(r, 0, 10) {
		var s api.Star
		for i, x := range []*api.Span{&s.X, &s.Y} {
			w.stands[i] = append(w.stands[i], pick(r, 0, 1<<15))
			*x = around(r, w.stands[i][n], wide, span(0, 1<<15))
		}
		if s.Known = r.IntN(3) != 0; s.Known {
			s.East, s.North = around(r, w.place(0, n), wide, sky), around(r, w.place(1, n), wide, sky)
		}
		p.Stars = append(p.Stars, s)
	}
	return p, w
}

// P4.9, P2: whatever is true is within what is told, and nothing clashes.
func TestTruthIsWithin(t *testing.T) {
	r := random()
	for range 300 {
		p, w := measured(r)
		got := tellAll(p)
		if got.clash != 0 || got.drop != 0 || !within(only(w.scale), got.scale) {
			t.Fatal(p, w, got)
		}
		stars := w.stars()
		for a, m := range stars {
			for b, n := range stars {
				if !bothWithin(both{only(n[0] - m[0]), only(n[1] - m[1])}, got.apart[a][b]) {
					t.Fatal(p, w, a, b, got.apart[a][b])
				}
			}
		}
		if !anyKnown(p) {
			continue
		}
		if !bothWithin(both{only(w.corner[0]), only(w.corner[1])}, got.zero) {
			t.Fatal(p, w, got.zero)
		}
		for n, s := range stars {
			if !bothWithin(both{only(s[0]), only(s[1])}, got.star[n]) {
				t.Fatal(p, w, n, got.star[n])
			}
			x, y, e := plate.Find(p, s[0], s[1])
			if e != api.OK || !bothWithin(both{only(w.stands[0][n]), only(w.stands[1][n])}, both{x, y}) {
				t.Fatal(p, w, n, x, y, e)
			}
		}
	}
}

// P4.9, P3: without the stars of Drop nothing clashes; of those of Clash each one is needed.
func TestSetsAreNeeded(t *testing.T) {
	r := random()
	clashes := 0
	for range 900 {
		p := small(r)
		clash, _ := plate.Clash(p)
		drop, _ := plate.Drop(p)
		if (clash == 0) != (drop == 0) || !can(without(p, drop)) || (clash|drop)&^knownOf(p) != 0 {
			t.Fatal(p, clash, drop)
		}
		if clash == 0 {
			continue
		}
		clashes++
		alone := without(p, ^clash)
		if can(alone) || clash&drop == 0 {
			t.Fatal(p, clash, drop)
		}
		for i := range p.Stars {
			if clash&(1<<i) != 0 && !can(without(alone, 1<<i)) {
				t.Fatal(p, clash, i)
			}
		}
	}
	if clashes < 150 {
		t.Error("too few clashes:", clashes)
	}
}

// P4.10, P2: no span of a plate that knows more is wider, and no fewer stars must be wrong.
func noWider(t *testing.T, less, more api.Plate) {
	t.Helper()
	wide, narrow := tellAll(less), tellAll(more)
	if size(narrow.drop) < size(wide.drop) {
		t.Fatal("Drop", less, more, wide.drop, narrow.drop)
	}
	if narrow.drop != 0 {
		return
	}
	if !within(narrow.scale, wide.scale) {
		t.Fatal("Scale", less, more, wide.scale, narrow.scale)
	}
	for a := range less.Stars {
		for b := range less.Stars {
			if !bothWithin(narrow.apart[a][b], wide.apart[a][b]) {
				t.Fatal("Apart", less, more, a, b, wide.apart[a][b], narrow.apart[a][b])
			}
		}
	}
	if !anyKnown(less) {
		return
	}
	if !bothWithin(narrow.zero, wide.zero) || narrow.wide > wide.wide {
		t.Fatal("Zero, Poor", less, more, wide, narrow)
	}
	for a := range less.Stars {
		if !bothWithin(narrow.star[a], wide.star[a]) {
			t.Fatal("Star", less, more, a, wide.star[a], narrow.star[a])
		}
		findsNoMore(t, less, more, narrow.star[a])
	}
}

// findsNoMore fails if a place is found on a plate that knows more, but not, or not all of it, on one that knows less.
func findsNoMore(t *testing.T, less, more api.Plate, at both) {
	t.Helper()
	for _, place := range [][2]int{{at[0].Lo, at[1].Hi}, {at[0].Hi, at[1].Lo}} {
		a, b, eLess := plate.Find(less, place[0], place[1])
		x, y, eMore := plate.Find(more, place[0], place[1])
		if eMore == api.OK && (eLess != api.OK || !bothWithin(both{x, y}, both{a, b})) {
			t.Fatal("Find", less, more, place, a, b, x, y)
		}
	}
}

// narrower returns a plate of which one span is narrower.
func narrower(r *rand.Rand, p api.Plate) api.Plate {
	p = copyOf(p)
	n := -1
	if len(p.Stars) > 0 {
		n = pick(r, -1, len(p.Stars)-1)
	}
	if n < 0 {
		p.Scale = part(r, p.Scale)
		return p
	}
	s := &p.Stars[n]
	of := []*api.Span{&s.X, &s.Y, &s.East, &s.North}[r.IntN(4)]
	*of = part(r, *of)
	return p
}

func TestMoreIsNoWider(t *testing.T) {
	r := random()
	for i := range 900 {
		p := small(r)
		if i%4 == 0 {
			p, _ = measured(r)
		}
		noWider(t, p, narrower(r, p))
		if len(p.Stars) == 0 {
			continue
		}
		less := without(p, 1<<r.IntN(len(p.Stars)))
		noWider(t, less, p)
	}
}

// P4.10: where no star is known, stars are apart as they are by the scale alone, whatever was said of them.
func TestApartByTheScaleAlone(t *testing.T) {
	r := random()
	for i := range 300 {
		p := small(r)
		if i%2 == 0 {
			p, _ = measured(r)
		}
		got := tellAll(without(p, ^0))
		for a, s := range p.Stars {
			for b, o := range p.Stars {
				for direction := range 2 {
					var want ends
					m, _ := along(s, direction)
					n, _ := along(o, direction)
					for scale := p.Scale.Lo; scale <= p.Scale.Hi; scale++ {
						want.add(scale*n.Lo/1000 - scale*m.Hi/1000)
						want.add(scale*n.Hi/1000 - scale*m.Lo/1000)
					}
					if a == b {
						want.span = span(0, 0)
					}
					if got.apart[a][b][direction] != want.span {
						t.Fatal(p, a, b, direction, got.apart[a][b], want)
					}
				}
			}
		}
	}
}

// placesNow returns where the stars of a set are now.
func placesNow(set int, now []int) int {
	other := 0
	for i, n := range now {
		if set&(1<<i) != 0 {
			other |= 1 << n
		}
	}
	return other
}

// P4.10, P12: the order of stars makes no difference but to their numbers. Of several sets that are as small, and of
// several stars as poor, another one may be the first.
func TestOrderOfStars(t *testing.T) {
	r := random()
	for i := range 600 {
		p := small(r)
		if i%4 == 0 {
			p, _ = measured(r)
		}
		now := r.Perm(len(p.Stars))
		other := copyOf(p)
		for i, s := range p.Stars {
			other.Stars[now[i]] = s
		}
		a, b := tellAll(p), tellAll(other)
		for i, m := range now {
			same(t, "Star", b.star[m], a.star[i])
			for j, n := range now {
				same(t, "Apart", b.apart[m][n], a.apart[i][j])
			}
		}
		same(t, "Scale", b.scale, a.scale)
		same(t, "Zero", b.zero, a.zero)
		same(t, "Poor", b.wide, a.wide)
		same(t, "Clash", size(b.clash), size(a.clash))
		same(t, "Drop", size(b.drop), size(a.drop))
		if !reflect.DeepEqual(a.errors, b.errors) {
			t.Fatal("errors", p, other, a.errors, b.errors)
		}
		if moved := placesNow(a.clash, now); moved != 0 && (b.clash > moved || can(without(other, ^moved))) {
			t.Fatal("Clash", p, other, a.clash, b.clash)
		}
		if moved := placesNow(a.drop, now); b.drop > moved || !can(without(other, moved)) {
			t.Fatal("Drop", p, other, a.drop, b.drop)
		}
	}
}

// P4.10: if all known places are moved by as much, the corner is moved by it, and so are all stars, and nothing else.
func TestMoved(t *testing.T) {
	r := random()
	for i := range 600 {
		p := small(r)
		if i%4 == 0 {
			p, _ = measured(r)
		}
		by := [2]int{pick(r, -999, 999), pick(r, -999, 999)}
		other := copyOf(p)
		fits := true
		for i := range other.Stars {
			s := &other.Stars[i]
			s.East, s.North = span(s.East.Lo+by[0], s.East.Hi+by[0]), span(s.North.Lo+by[1], s.North.Hi+by[1])
			fits = fits && (!s.Known || within(s.East, span(-1<<20, 1<<20)) && within(s.North, span(-1<<20, 1<<20)))
		}
		if !fits {
			continue
		}
		a, b := tellAll(p), tellAll(other)
		for _, at := range a.star {
			x, y, e := plate.Find(p, at[0].Lo, at[1].Hi)
			v, w, moved := plate.Find(other, at[0].Lo+by[0], at[1].Hi+by[1])
			if e == api.ErrRange || moved == api.ErrRange {
				continue
			}
			same(t, "Find", both{v, w}, both{x, y})
			same(t, "Find", moved, e)
		}
		if can(p) && anyKnown(p) {
			for i := range by {
				a.zero[i] = span(a.zero[i].Lo+by[i], a.zero[i].Hi+by[i])
				for n := range a.star {
					a.star[n][i] = span(a.star[n][i].Lo+by[i], a.star[n][i].Hi+by[i])
				}
			}
		}
		if !reflect.DeepEqual(a, b) {
			t.Fatal(p, other, a, b)
		}
	}
}

// turned returns spans of both directions that have changed places.
func turned(b both) both { return both{b[1], b[0]} }

// Both directions are told alike: if they change places on the plate and in the sky, so do they in all that is told.
func TestDirectionsChangePlaces(t *testing.T) {
	r := random()
	for i := range 300 {
		p := small(r)
		if i%4 == 0 {
			p, _ = measured(r)
		}
		other := copyOf(p)
		for i, s := range p.Stars {
			other.Stars[i] = api.Star{X: s.Y, Y: s.X, Known: s.Known, East: s.North, North: s.East}
		}
		a, b := tellAll(p), tellAll(other)
		b.zero = turned(b.zero)
		for n := range b.star {
			b.star[n] = turned(b.star[n])
			for m := range b.apart[n] {
				b.apart[n][m] = turned(b.apart[n][m])
			}
		}
		if !reflect.DeepEqual(a, b) {
			t.Fatal(p, other, a, b)
		}
	}
}
