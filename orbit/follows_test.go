package orbit_test

import (
	"math/rand/v2"
	"reflect"
	"slices"
	"testing"

	"zoneworks/api"
)

// body is what is true of a body: where it is on the day 0, how it moves, and which images are its own.
type body struct{ place, motion [2]int }

// on returns where a body is on a day.
func (b body) on(day int) [2]int {
	return [2]int{b.place[0] + b.motion[0]*day, b.place[1] + b.motion[1]*day}
}

// world is all bodies that a search has seen, and of each of them its images.
type world struct {
	bodies []body
	images []int
}

// strays returns the images of bodies that were seen but once.
func (w world) strays() int {
	set := 0
	for _, images := range w.images {
		if size(images) == 1 {
			set |= images
		}
	}
	return set
}

// makeWorld returns a search that has seen bodies, in any order, and what is true of it.
func makeWorld(r *rand.Rand) (api.Search, world) {
	lo := pick(r, -12, 11)
	s := search(span(lo, pick(r, lo, 12)), 0)
	reach, width := []int{3, 12, 40, 150}[r.IntN(4)], pick(r, 0, 3)
	var w world
	for range pick(r, 0, 4) {
		var b body
		for n := range b.place {
			b.place[n], b.motion[n] = pick(r, -reach, reach), pick(r, s.Speed.Lo, s.Speed.Hi)
		}
		w.bodies, w.images = append(w.bodies, b), append(w.images, 0)
	}
	image := 0
	for _, day := range anyDays(r, 4) {
		n := night(day)
		for _, k := range r.Perm(len(w.bodies)) {
			if image == api.OrbitImages || r.IntN(4) == 0 {
				continue
			}
			at := w.bodies[k].on(day)
			n.Spots = append(n.Spots, spot(around(r, at[0], width), around(r, at[1], width)))
			w.images[k] |= 1 << image
			image++
		}
		s.Nights = append(s.Nights, n)
	}
	s.Strays = min(api.OrbitImages, size(w.strays())+pick(r, 0, 2))
	return s, w
}

// seen returns the sets of images of all bodies that were seen at all, in the order of joinings.
func (w world) seen() []int {
	var sets []int
	for _, images := range w.images {
		if images != 0 {
			sets = append(sets, images)
		}
	}
	slices.SortFunc(sets, func(a, b int) int { return least(a) - least(b) })
	return sets
}

// of returns the number of the body of an image.
func (w world) of(image int) int {
	return slices.IndexFunc(w.images, func(set int) bool { return has(set, image) })
}

// P8.9, P2, P7: what is true is within what is told.
func TestTruthIsWithin(t *testing.T) {
	r := random()
	always, never, perhaps, lost, sure, open, moved := 0, 0, 0, 0, 0, 0, 0
	for range 1500 {
		s, w := makeWorld(r)
		day := pick(r, 0, 30)
		x := tellAll(t, s, day)
		if !x.isJoined() || len(x.simple) > len(w.seen()) {
			t.Fatal("the true bodies are no joining", s, w, x)
		}
		for n, images := range w.images {
			b := w.bodies[n]
			for part := images; part > 0; part = (part - 1) & images {
				m, at, there := x.motion[part], b.on(day), x.where[part][0]
				if !x.fits[part] || !holdsBoth(m, two[api.Span]{only(b.motion[0]), only(b.motion[1])}) || !holdsBoth(there, two[api.Span]{only(at[0]), only(at[1])}) {
					t.Fatal("Fits, Motion, Where", s, w, part, m, there)
				}
				if m != (two[api.Span]{s.Speed, s.Speed}) {
					moved++
				}
			}
		}
		for a := range sizeOf(s) {
			for b := range a {
				is, told := w.of(a) == w.of(b), x.together[a][b]
				if is && told == api.OrbitNever || !is && told == api.OrbitAlways {
					t.Fatal("Together", s, w, a, b, told)
				}
				always, never, perhaps = always+told/2, never+(2-told)/2, perhaps+told%2
			}
		}
		if strays := w.strays(); x.lost.a&^strays != 0 || strays&^x.lost.b != 0 {
			t.Fatal("Lost", s, w, x.lost)
		}
		for _, set := range x.sure {
			if !slices.Contains(w.seen(), set) {
				t.Fatal("Sure", s, w, set)
			}
		}
		if x.count == 1 && (!slices.Equal(x.simple, w.seen()) || !slices.Equal(x.sure, w.seen())) {
			t.Fatal("the only joining", s, w, x)
		}
		lost, sure, open = lost+size(x.lost.a), sure+len(x.sure), open+min(x.count-1, 1)
	}
	if min(always, never, perhaps, lost, sure, open, moved) < 300 {
		t.Error("too few searches of a kind:", always, never, perhaps, lost, sure, open, moved)
	}
}

// anyWorld returns a search of which what is true is of no matter.
func anyWorld(r *rand.Rand) api.Search {
	if r.IntN(2) == 0 {
		return anySearch(r, 7)
	}
	s, _ := makeWorld(r)
	s.Strays = pick(r, 0, s.Strays)
	return s
}

// P8.9: a part of a body is one; P8.10: with an image more, where it is and how it moves is told no less exactly.
func TestParts(t *testing.T) {
	r := random()
	better, better3 := 0, 0
	for range 1000 {
		s := anyWorld(r)
		x := tellAll(t, s, 0, 9)
		for images, fits := range x.fits {
			if !fits {
				continue
			}
			for image := range sizeOf(s) {
				part := images &^ (1 << image)
				if part == 0 || part == images {
					continue
				}
				if !x.fits[part] || !holdsBoth(x.motion[part], x.motion[images]) || !holdsBoth(x.where[part][0], x.where[images][0]) || !holdsBoth(x.where[part][1], x.where[images][1]) {
					t.Fatal(s, images, part)
				}
				if x.motion[part] != x.motion[images] {
					better++
					if size(part) > 1 {
						better3++
					}
				}
			}
		}
	}
	if better < 1000 || better3 < 300 {
		t.Error("too few bodies of a kind:", better, better3)
	}
}

// wider returns a span around another one.
func wider(r *rand.Rand, s api.Span) api.Span {
	return span(s.Lo-pick(r, 0, 2), s.Hi+pick(r, 0, 2))
}

// more returns a search with a wider Speed, or wider images, or more Strays.
func more(r *rand.Rand, s api.Search) api.Search {
	s = copyOf(s)
	switch r.IntN(3) {
	case 0:
		s.Speed = wider(r, s.Speed)
	case 1:
		s.Strays = min(api.OrbitImages, s.Strays+pick(r, 1, 3))
	case 2:
		for _, night := range s.Nights {
			for n, x := range night.Spots {
				night.Spots[n] = spot(wider(r, x.East), wider(r, x.North))
			}
		}
	}
	return s
}

// P8.10: with more that can be no joining is lost, and nothing is told more exactly.
func TestMoreCanBe(t *testing.T) {
	r := random()
	first, others, wide := 0, 0, 0
	for range 1000 {
		s := anyWorld(r)
		other := more(r, s)
		x, y := tellAll(t, s, 3), tellAll(t, other, 3)
		for images, fits := range x.fits {
			if fits && (!y.fits[images] || !holdsBoth(y.motion[images], x.motion[images]) || !holdsBoth(y.where[images][0], x.where[images][0])) {
				t.Fatal("Fits, Motion, Where", s, other, images)
			}
			if fits && y.motion[images] != x.motion[images] {
				wide++
			}
		}
		if y.count < x.count {
			t.Fatal("Count", s, other, x, y)
		}
		if !x.isJoined() {
			if y.isJoined() {
				first++
			}
			continue
		}
		if y.lost.a&^x.lost.a != 0 || x.lost.b&^y.lost.b != 0 || len(y.simple) > len(x.simple) {
			t.Fatal("Lost, Simple", s, other, x, y)
		}
		for _, set := range y.sure {
			if !slices.Contains(x.sure, set) {
				t.Fatal("Sure", s, other, x, y)
			}
		}
		for a := range x.together {
			for b, told := range x.together[a] {
				if told != y.together[a][b] && y.together[a][b] != api.OrbitPerhaps {
					t.Fatal("Together", s, other, a, b)
				}
			}
		}
		if x.count < y.count {
			others++
		}
	}
	if min(first, others, wide) < 100 {
		t.Error("too few searches of a kind:", first, others, wide)
	}
}

// P8.10: if all days are moved by as much, or all images, nothing changes but where bodies are.
func TestMoved(t *testing.T) {
	r := random()
	for range 500 {
		s := anyWorld(r)
		by, east, north := pick(r, 0, 60000), pick(r, -9999, 9999), pick(r, -9999, 9999)
		later, farther := copyOf(s), copyOf(s)
		for n := range s.Nights {
			later.Nights[n].Day += by
			for k, x := range s.Nights[n].Spots {
				farther.Nights[n].Spots[k] = spot(span(x.East.Lo+east, x.East.Hi+east), span(x.North.Lo+north, x.North.Hi+north))
			}
		}
		x := tellAll(t, s, 0, 9)
		if y := tellAll(t, later, by, by+9); !reflect.DeepEqual(x, y) {
			t.Fatal("later", s, by, x, y)
		}
		y := tellAll(t, farther, 0, 9)
		for images, fits := range y.fits {
			for n, there := range y.where[images] {
				if fits {
					y.where[images][n] = two[api.Span]{span(there.a.Lo-east, there.a.Hi-east), span(there.b.Lo-north, there.b.Hi-north)}
				}
			}
		}
		if !reflect.DeepEqual(x, y) {
			t.Fatal("farther", s, east, north, x, y)
		}
	}
}

// Terms: East and North are alike.
func TestAcross(t *testing.T) {
	r := random()
	for range 500 {
		s := anyWorld(r)
		x, y := tellAll(t, s, 0, 9), tellAll(t, across(s), 0, 9)
		for images := range y.fits {
			y.motion[images] = two[api.Span]{y.motion[images].b, y.motion[images].a}
			for n, there := range y.where[images] {
				y.where[images][n] = two[api.Span]{there.b, there.a}
			}
		}
		if !reflect.DeepEqual(x, y) {
			t.Fatal(s, x, y)
		}
	}
}

// Terms: a night without images makes no difference, whether it is before others, between them, or after them.
func TestNightWithoutImages(t *testing.T) {
	r := random()
	some := 0
	for range 1000 {
		s := copyOf(anyWorld(r))
		if len(s.Nights) == api.OrbitNights {
			continue
		}
		some++
		// There is a day without a night before each of them.
		days := []int{}
		for n := range s.Nights {
			s.Nights[n].Day = 2*s.Nights[n].Day + 1
			days = append(days, s.Nights[n].Day-1)
		}
		days = append(days, 16)
		other, n := copyOf(s), pick(r, 0, len(s.Nights))
		other.Nights = slices.Insert(other.Nights, n, night(days[n]))
		if x, y := tellAll(t, s, 0, 9), tellAll(t, other, 0, 9); !reflect.DeepEqual(x, y) {
			t.Fatal(s, other, x, y)
		}
	}
	if some < 200 {
		t.Error("too few searches:", some)
	}
}

// renumbered returns a set of images that have other numbers.
func renumbered(set int, to []int) int {
	other := 0
	for n, now := range to {
		if has(set, n) {
			other |= 1 << now
		}
	}
	return other
}

// P12: the order of the images of a night makes no difference but to their numbers; of several joinings with as many bodies
// another one may be the first.
func TestOrder(t *testing.T) {
	r := random()
	moved := 0
	for range 1000 {
		s := anyWorld(r)
		other := copyOf(s)
		var to []int
		for n, night := range s.Nights {
			before, perm := len(to), r.Perm(len(night.Spots))
			for k, now := range perm {
				to = append(to, before+now)
				other.Nights[n].Spots[now] = night.Spots[k]
			}
		}
		if !slices.IsSorted(to) {
			moved++
		}
		x, y := tellAll(t, s, 0, 9), tellAll(t, other, 0, 9)
		same(t, "errors", y.e, x.e)
		same(t, "Count", y.count, x.count)
		same(t, "Lost", y.lost, two[int]{renumbered(x.lost.a, to), renumbered(x.lost.b, to)})
		same(t, "Simple", len(y.simple), len(x.simple))
		for images, fits := range x.fits {
			now := renumbered(images, to)
			same(t, "Fits", y.fits[now], fits)
			same(t, "Motion", y.motion[now], x.motion[images])
			if !slices.Equal(y.where[now], x.where[images]) {
				t.Fatal("Where", s, other, images)
			}
		}
		for a := range to {
			for b := range to {
				same(t, "Together", y.together[to[a]][to[b]], x.together[a][b])
			}
		}
		var sure []int
		for _, set := range x.sure {
			sure = append(sure, renumbered(set, to))
		}
		slices.SortFunc(sure, func(a, b int) int { return least(a) - least(b) })
		if !slices.Equal(sure, y.sure) {
			t.Fatal("Sure", s, other, x.sure, y.sure)
		}
	}
	if moved < 300 {
		t.Error("too few searches in another order:", moved)
	}
}
