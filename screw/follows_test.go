package screw_test

import (
	"math/rand/v2"
	"reflect"
	"testing"

	"zoneworks/api"
	"zoneworks/screw"
)

// world is what is true: the errors of a screw, the sum, and places. The eye is off by something else each time.
type world struct {
	errors, places []int
	sum            int
}

// makeWorld returns a measure without settings, and what is true of it.
func makeWorld(r *rand.Rand) (api.Measure, world) {
	m := api.Measure{Images: pick(r, 1, 6)}
	m.Screw.Eye = part(r, -100, 100)
	w := world{sum: pick(r, 0, 1<<17)}
	for range pick(r, 1, 40) {
		s := part(r, -100, 100)
		m.Screw.Errors = append(m.Screw.Errors, s)
		w.errors = append(w.errors, pick(r, s.Lo, s.Hi))
	}
	m.Sum = span(pick(r, 0, w.sum), pick(r, w.sum, 1<<17))
	reach := len(w.errors) * 1000
	for range m.Images {
		w.places = append(w.places, pick(r, 0, reach))
	}
	return m, w
}

// set returns a setting on an image as the screw and the eye of that world show it, if the screw reaches it.
func (w world) set(r *rand.Rand, m api.Measure, image int, reversed bool) (api.Setting, bool) {
	at := w.places[image]
	if reversed {
		at = w.sum - at
	}
	at -= pick(r, m.Screw.Eye.Lo, m.Screw.Eye.Hi)
	for turn, e := range w.errors {
		if reading := at - e; reading >= turn*1000 && reading < turn*1000+1000 {
			return api.Setting{Image: image, Reading: reading, Reversed: reversed}, true
		}
	}
	return api.Setting{}, false
}

// measured returns a measure of a world, with as many settings as are reached of n.
func measured(r *rand.Rand, n int) (api.Measure, world) {
	m, w := makeWorld(r)
	for range n {
		if s, ok := w.set(r, m, r.IntN(m.Images), r.IntN(2) == 1); ok {
			m.Settings = append(m.Settings, s)
		}
	}
	return m, w
}

// P1.9, P2: whatever is true is within what is told, and no settings clash.
func TestTruthIsWithin(t *testing.T) {
	r := random()
	for range 300 {
		m, w := measured(r, 12)
		got := tellAll(m)
		if got.clash != 0 || got.drop != 0 {
			t.Fatal(m, w, got.clash, got.drop)
		}
		if s, e := screw.Sum(m); e != api.OK || !within(span(w.sum, w.sum), s) {
			t.Fatal(m, w, s, e)
		}
		for a, p := range w.places {
			if s, e := screw.Place(m, a); e != api.ErrDoubt && (e != api.OK || !within(span(p, p), s)) {
				t.Fatal(m, w, a, s, e)
			}
			for b, q := range w.places {
				if s, e := screw.Apart(m, a, b); e != api.ErrDoubt && (e != api.OK || !within(span(q-p, q-p), s)) {
					t.Fatal(m, w, a, b, s, e)
				}
			}
		}
	}
}

// P1.9, P3: without the settings of Drop nothing clashes; of those of Clash each one alone is needed.
func TestSetsAreNeeded(t *testing.T) {
	r := random()
	clashes := 0
	for range 300 {
		m := small(r)
		clash, _ := screw.Clash(m)
		drop, _ := screw.Drop(m)
		if (clash == 0) != (drop == 0) {
			t.Fatal(m, clash, drop)
		}
		if _, e := screw.Sum(without(m, drop)); e != api.OK {
			t.Fatal(m, drop, e)
		}
		if clash == 0 {
			continue
		}
		clashes++
		alone := without(m, ^clash)
		if _, e := screw.Sum(alone); e != api.ErrClash {
			t.Fatal(m, clash, e)
		}
		for i := range alone.Settings {
			if _, e := screw.Sum(without(alone, 1<<i)); e != api.OK {
				t.Fatal(m, clash, i, e)
			}
		}
	}
	if clashes < 30 {
		t.Error("too few clashes:", clashes)
	}
}

// P1.10, P2: no span of a measure that knows more is wider, and no fewer settings must be wrong.
func noWider(t *testing.T, less, more api.Measure) {
	t.Helper()
	a, _ := screw.Drop(less)
	b, _ := screw.Drop(more)
	if size(b) < size(a) {
		t.Fatal("Drop", less, more, a, b)
	}
	if b != 0 {
		return
	}
	wide, narrow := tellAll(less), tellAll(more)
	if !within(narrow.sum, wide.sum) {
		t.Fatal("Sum", less, more, wide.sum, narrow.sum)
	}
	for a := range less.Images {
		if _, e := screw.Place(less, a); e == api.OK && !within(narrow.place[a], wide.place[a]) {
			t.Fatal("Place", less, more, a, wide.place[a], narrow.place[a])
		}
		for b := range less.Images {
			if _, e := screw.Apart(less, a, b); e == api.OK && !within(narrow.apart[a][b], wide.apart[a][b]) {
				t.Fatal("Apart", less, more, a, b, wide.apart[a][b], narrow.apart[a][b])
			}
		}
	}
}

func TestMoreIsNoWider(t *testing.T) {
	r := random()
	for i := range 900 {
		m := small(r)
		if i%3 == 0 {
			m, _ = measured(r, 6)
		}
		more := copyOf(m)
		more.Settings = append(more.Settings, api.Setting{Image: r.IntN(m.Images), Reading: pick(r, 0, len(m.Screw.Errors)*1000-1), Reversed: r.IntN(2) == 1})
		noWider(t, m, more)
		if len(m.Settings) > 0 {
			more = copyOf(m)
			more.Settings = append(more.Settings, m.Settings[r.IntN(len(m.Settings))])
			noWider(t, m, more)
		}
		more = copyOf(m)
		more.Screw.Eye = part(r, m.Screw.Eye.Lo, m.Screw.Eye.Hi)
		noWider(t, m, more)
		more = copyOf(m)
		more.Sum = part(r, m.Sum.Lo, m.Sum.Hi)
		noWider(t, m, more)
	}
}

// P1.10: how far images are apart is told at least as exactly as by their places alone; and turned about by Apart of both.
func TestApartIsNoWiderThanPlaces(t *testing.T) {
	r := random()
	exacter := 0
	for i := range 600 {
		m := small(r)
		if i%2 == 0 {
			m, _ = measured(r, 8)
		}
		for a := range m.Images {
			for b := range m.Images {
				s, e := screw.Apart(m, a, b)
				p, ep := screw.Place(m, a)
				q, eq := screw.Place(m, b)
				if ep != api.OK || eq != api.OK {
					continue
				}
				byPlaces := span(q.Lo-p.Hi, q.Hi-p.Lo)
				if e != api.OK || !within(s, byPlaces) {
					t.Fatal(m, a, b, s, p, q, e)
				}
				if a != b && s != byPlaces {
					exacter++
				}
				if back, _ := screw.Apart(m, b, a); back != span(-s.Hi, -s.Lo) {
					t.Fatal(m, a, b, s, back)
				}
			}
		}
	}
	if exacter < 30 {
		t.Error("too few that are told more exactly:", exacter)
	}
}

// moved returns a set whose numbers are others now.
func moved(set int, to []int) int {
	all := 0
	for i, n := range to {
		if set&(1<<i) != 0 {
			all |= 1 << n
		}
	}
	return all
}

// P1.10, P12: the order of settings makes no difference but to their numbers.
func TestOrderOfSettings(t *testing.T) {
	r := random()
	for range 400 {
		m := small(r)
		to := r.Perm(len(m.Settings))
		other := copyOf(m)
		for i, s := range m.Settings {
			other.Settings[to[i]] = s
		}
		a, b := tellAll(m), tellAll(other)
		if size(a.clash) != size(b.clash) || size(a.drop) != size(b.drop) || moved(a.idle, to) != b.idle {
			t.Fatal(m, other, a, b)
		}
		if _, e := screw.Sum(without(other, moved(a.drop, to))); e != api.OK {
			t.Fatal(m, other, a, b)
		}
		b.clash, b.drop, b.idle = a.clash, a.drop, a.idle
		if !reflect.DeepEqual(a, b) {
			t.Fatal(m, other, a, b)
		}
	}
}

// P1.10: if images are numbered otherwise, only their numbers change.
func TestNumbersOfImages(t *testing.T) {
	r := random()
	for range 400 {
		m := small(r)
		to := r.Perm(m.Images)
		other := copyOf(m)
		for i := range other.Settings {
			other.Settings[i].Image = to[m.Settings[i].Image]
		}
		a, b := tellAll(m), tellAll(other)
		if a.sum != b.sum || a.clash != b.clash || a.drop != b.drop || a.idle != b.idle || moved(a.once, to) != b.once {
			t.Fatal(m, other, a, b)
		}
		for i, n := range to {
			if a.place[i] != b.place[n] {
				t.Fatal(m, other, a, b)
			}
			for j, k := range to {
				if a.apart[i][j] != b.apart[n][k] {
					t.Fatal(m, other, a, b)
				}
			}
		}
	}
}

// P1: the largest measures, of settings that contradict each other, end.
func TestLargest(t *testing.T) {
	m := api.Measure{Screw: api.Screw{Errors: make([]api.Span, 40)}, Images: 6, Sum: span(0, 1<<17)}
	for i := range 12 {
		m.Settings = append(m.Settings, api.Setting{Image: i / 2, Reading: i * 3333, Reversed: i%2 == 1})
	}
	got := tellAll(m)
	same(t, "Clash", got.clash, 15)
	same(t, "Drop", got.drop, 1|4|16|64|256)
	same(t, "Once", got.once, 0)
	m.Sum = span(1<<17, 1<<17)
	got = tellAll(m)
	same(t, "Clash", got.clash, 3)
	same(t, "Drop", got.drop, 1|4|16|64|256|1024)
	m.Settings = m.Settings[:0]
	for i := range 12 {
		m.Settings = append(m.Settings, up(i/2, 39_999))
	}
	got = tellAll(m)
	same(t, "Clash", got.clash, 0)
	same(t, "Idle", got.idle, 1<<12-1)
	same(t, "Place", got.place[5], span(39_999, 39_999))
	same(t, "Apart", got.apart[5][0], span(0, 0))
}
