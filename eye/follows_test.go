package eye_test

import (
	"math/rand/v2"
	"reflect"
	"testing"

	"zoneworks/api"
	"zoneworks/eye"
)

// world is what is true: the errors of a screw, habits, and places. The eye is off by something else each time.
type world struct{ errors, habits, places []int }

// makeWorld returns a watch without looks, and what is true of it. Some measurers truly have no habit.
func makeWorld(r *rand.Rand) (api.Watch, world) {
	w := api.Watch{Images: pick(r, 1, 6), Eyes: pick(r, 1, 4), Habit: span(pick(r, -200, 0), pick(r, 0, 200))}
	widest := pick(r, 0, 100)
	w.Screw.Eye = part(r, -widest, widest)
	var x world
	for range pick(r, 1, 40) {
		s := part(r, -widest, widest)
		w.Screw.Errors = append(w.Screw.Errors, s)
		x.errors = append(x.errors, pick(r, s.Lo, s.Hi))
	}
	for range w.Eyes {
		x.habits = append(x.habits, pick(r, w.Habit.Lo, w.Habit.Hi)*pick(r, 0, 1))
	}
	for range w.Images {
		x.places = append(x.places, pick(r, 0, len(x.errors)*1000))
	}
	return w, x
}

// look returns a look at an image as the screw and the eye of that world show it, if the screw reaches it.
func (x world) look(r *rand.Rand, w api.Watch, eye, image int) (api.Look, bool) {
	at := x.places[image] - x.habits[eye] - pick(r, w.Screw.Eye.Lo, w.Screw.Eye.Hi)
	for turn, e := range x.errors {
		if reading := at - e; reading >= turn*1000 && reading < turn*1000+1000 {
			return look(eye, image, reading), true
		}
	}
	return api.Look{}, false
}

// watched returns a watch of a world, with as many looks as are reached of n.
func watched(r *rand.Rand, n int) (api.Watch, world) {
	w, x := makeWorld(r)
	for range n {
		if l, ok := x.look(r, w, r.IntN(w.Eyes), r.IntN(w.Images)); ok {
			w.Looks = append(w.Looks, l)
		}
	}
	return w, x
}

// P3.7, P2: whatever is true is within what is told, no looks clash, and no more measurers must have habits than do.
func TestTruthIsWithin(t *testing.T) {
	r := random()
	explained := 0
	for range 400 {
		w, x := watched(r, 12)
		got := tellAll(w)
		if got.clash != 0 || got.drop != 0 {
			t.Fatal(w, x, got.clash, got.drop)
		}
		have := 0
		for a, h := range x.habits {
			if h != 0 {
				have |= 1 << a
			}
			if !within(only(h), got.habit[a]) {
				t.Fatal(w, x, a, got.habit[a])
			}
			for b, g := range x.habits {
				if !within(only(g-h), got.between[a][b]) {
					t.Fatal(w, x, a, b, got.between[a][b])
				}
			}
		}
		for image, p := range x.places {
			if s, e := eye.Place(w, image); e != api.ErrDoubt && (e != api.OK || !within(only(p), s)) {
				t.Fatal(w, x, image, s, e)
			}
		}
		if got.sure&^have != 0 || got.sure&^got.explain != 0 || size(got.explain) > size(have) {
			t.Fatal(w, x, got.sure, got.explain)
		}
		explained += size(got.explain)
	}
	if explained < 100 {
		t.Error("too few habits:", explained)
	}
}

// P3.7, P3: without the looks of Drop nothing clashes; of those of Clash each one alone is needed.
func TestSetsAreNeeded(t *testing.T) {
	r := random()
	clashes := 0
	for range 600 {
		w := small(r)
		clash, _ := eye.Clash(w)
		drop, _ := eye.Drop(w)
		if (clash == 0) != (drop == 0) || !can(without(w, drop)) {
			t.Fatal(w, clash, drop)
		}
		if clash == 0 {
			continue
		}
		clashes++
		alone := without(w, ^clash)
		if can(alone) {
			t.Fatal(w, clash)
		}
		for i := range alone.Looks {
			if !can(without(alone, 1<<i)) {
				t.Fatal(w, clash, i)
			}
		}
	}
	if clashes < 60 {
		t.Error("too few clashes:", clashes)
	}
}

// P3.7, P2: no span of a watch that knows more is wider, and no fewer looks must be wrong; who surely has a habit still
// surely has one.
func noWider(t *testing.T, less, more api.Watch) {
	t.Helper()
	wide, narrow := tellAll(less), tellAll(more)
	if size(narrow.drop) < size(wide.drop) {
		t.Fatal("Drop", less, more, wide.drop, narrow.drop)
	}
	if narrow.drop != 0 {
		return
	}
	for a := range less.Eyes {
		if !within(narrow.habit[a], wide.habit[a]) {
			t.Fatal("Habit", less, more, a, wide.habit[a], narrow.habit[a])
		}
		for b := range less.Eyes {
			if !within(narrow.between[a][b], wide.between[a][b]) {
				t.Fatal("Between", less, more, a, b, wide.between[a][b], narrow.between[a][b])
			}
		}
	}
	for image := range less.Images {
		if _, e := eye.Place(less, image); e == api.OK && !within(narrow.place[image], wide.place[image]) {
			t.Fatal("Place", less, more, image, wide.place[image], narrow.place[image])
		}
	}
	if wide.sure&^narrow.sure != 0 || size(narrow.explain) < size(wide.explain) {
		t.Fatal("sets", less, more, wide, narrow)
	}
}

func TestMoreIsNoWider(t *testing.T) {
	r := random()
	for i := range 900 {
		w := small(r)
		if i%3 == 0 {
			w, _ = watched(r, 6)
		}
		more := copyOf(w)
		more.Looks = append(more.Looks, look(r.IntN(w.Eyes), r.IntN(w.Images), pick(r, 0, len(w.Screw.Errors)*1000-1)))
		noWider(t, w, more)
		if len(w.Looks) > 0 {
			more = copyOf(w)
			l := w.Looks[r.IntN(len(w.Looks))]
			l.Eye = r.IntN(w.Eyes)
			more.Looks = append(more.Looks, l)
			noWider(t, w, more)
		}
		more = copyOf(w)
		more.Habit = span(pick(r, w.Habit.Lo, 0), pick(r, 0, w.Habit.Hi))
		noWider(t, w, more)
	}
}

// renumbered returns a watch with other numbers of measurers, images and looks, and where each of them is now.
func renumbered(r *rand.Rand, w api.Watch) (other api.Watch, eyes, images, looks []int) {
	other = copyOf(w)
	eyes, images, looks = r.Perm(w.Eyes), r.Perm(w.Images), r.Perm(len(w.Looks))
	for i, l := range w.Looks {
		other.Looks[looks[i]] = look(eyes[l.Eye], images[l.Image], l.Reading)
	}
	return other, eyes, images, looks
}

// places returns where the things of a set are now.
func places(set int, now []int) int {
	other := 0
	for i, n := range now {
		if set&(1<<i) != 0 {
			other |= 1 << n
		}
	}
	return other
}

// P3.7, P12: if measurers, images or looks are numbered otherwise, only their numbers change. Of several sets that are as
// small another one may be the least number.
func TestOtherNumbers(t *testing.T) {
	r := random()
	for i := range 600 {
		w := small(r)
		if i%3 == 0 {
			w, _ = watched(r, 9)
		}
		other, eyes, images, looks := renumbered(r, w)
		a, b := tellAll(w), tellAll(other)
		for m, n := range eyes {
			same(t, "Habit", b.habit[n], a.habit[m])
			for k, l := range eyes {
				same(t, "Between", b.between[n][l], a.between[m][k])
			}
		}
		for m, n := range images {
			same(t, "Place", b.place[n], a.place[m])
		}
		same(t, "Sure", b.sure, places(a.sure, eyes))
		same(t, "Clash", size(b.clash), size(a.clash))
		same(t, "Drop", size(b.drop), size(a.drop))
		same(t, "Explain", size(b.explain), size(a.explain))
		if moved := places(a.clash, looks); moved != 0 && (b.clash > moved || can(without(other, ^moved))) {
			t.Fatal("Clash", w, other, a.clash, b.clash)
		}
		if moved := places(a.drop, looks); b.drop > moved || !can(without(other, moved)) {
			t.Fatal("Drop", w, other, a.drop, b.drop)
		}
		if b.explain > places(a.explain, eyes) {
			t.Fatal("Explain", w, other, a.explain, b.explain)
		}
	}
}

// If looks alone come in another order, spans, and sets of measurers, are the same.
func TestOrderOfLooks(t *testing.T) {
	r := random()
	for range 300 {
		w := small(r)
		other := copyOf(w)
		r.Shuffle(len(other.Looks), func(i, j int) { other.Looks[i], other.Looks[j] = other.Looks[j], other.Looks[i] })
		a, b := tellAll(w), tellAll(other)
		a.clash, a.drop, b.clash, b.drop = 0, 0, 0, 0
		if !reflect.DeepEqual(a, b) {
			t.Fatal(w, other, a, b)
		}
	}
}

// Habits and places are counted from one zero: a mirrored watch tells mirrored spans.
func TestMirrored(t *testing.T) {
	r := random()
	for range 300 {
		w := small(r)
		w.Screw.Errors[1] = w.Screw.Errors[0]
		other := mirror(w)
		a, b := tellAll(w), tellAll(other)
		for m := range w.Eyes {
			same(t, "Habit", b.habit[m], span(-a.habit[m].Hi, -a.habit[m].Lo))
		}
		same(t, "Sure", b.sure, a.sure)
		same(t, "Clash", b.clash, a.clash)
		same(t, "Drop", b.drop, a.drop)
		same(t, "Explain", b.explain, a.explain)
	}
}

// mirror returns a watch of which all readings, errors and habits are turned to the other side.
func mirror(w api.Watch) api.Watch {
	other := copyOf(w)
	other.Habit = span(-w.Habit.Hi, -w.Habit.Lo)
	other.Screw.Eye = span(-w.Screw.Eye.Hi, -w.Screw.Eye.Lo)
	for i, s := range w.Screw.Errors {
		other.Screw.Errors[i] = span(-s.Hi, -s.Lo)
	}
	for i, l := range w.Looks {
		other.Looks[i].Reading = 1999 - l.Reading
	}
	return other
}
