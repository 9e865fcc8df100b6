package eye_test

import (
	"math"
	"reflect"
	"testing"

	"zoneworks/api"
	"zoneworks/eye"
)

// refused fails unless each function refuses a watch with ErrArg, whatever else is wrong, and tells nothing (R1, R2).
func refused(t *testing.T, name string, w api.Watch) {
	t.Helper()
	for _, n := range []int{0, -1, 99} {
		s, e := eye.Habit(w, n)
		same(t, "Habit, "+name, s, api.Span{})
		same(t, "Habit, "+name, e, api.ErrArg)
		s, e = eye.Between(w, n, 0)
		same(t, "Between, "+name, s, api.Span{})
		same(t, "Between, "+name, e, api.ErrArg)
		s, e = eye.Between(w, 0, n)
		same(t, "Between, "+name, s, api.Span{})
		same(t, "Between, "+name, e, api.ErrArg)
		s, e = eye.Place(w, n)
		same(t, "Place, "+name, s, api.Span{})
		same(t, "Place, "+name, e, api.ErrArg)
	}
	for _, f := range []func(api.Watch) (int, api.Errno){eye.Sure, eye.Clash, eye.Drop, eye.Explain} {
		n, e := f(w)
		same(t, "a set, "+name, n, 0)
		same(t, "a set, "+name, e, api.ErrArg)
	}
}

// taken fails unless a watch is valid.
func taken(t *testing.T, name string, w api.Watch) {
	t.Helper()
	if _, e := eye.Clash(w); e != api.OK {
		t.Errorf("Clash, %s: %v", name, e)
	}
	if _, e := eye.Drop(w); e != api.OK {
		t.Errorf("Drop, %s: %v", name, e)
	}
	if _, e := eye.Sure(w); e != api.OK && e != api.ErrClash {
		t.Errorf("Sure, %s: %v", name, e)
	}
	if _, e := eye.Habit(w, 0); e != api.OK && e != api.ErrClash {
		t.Errorf("Habit, %s: %v", name, e)
	}
}

// badSpans are not valid, or not from lo to hi.
func badSpans(lo, hi int) []api.Span {
	return []api.Span{span(lo+1, lo), span(hi, hi-1), span(hi, lo), span(lo-1, lo), span(lo-1, hi), span(hi, hi+1), span(lo, hi+1), span(lo-1, lo-1), span(hi+1, hi+1), span(math.MinInt, math.MaxInt), span(math.MaxInt, math.MinInt), span(math.MinInt, 0), span(0, math.MaxInt)}
}

// goodSpans are valid, and from lo to hi.
func goodSpans(lo, hi int) []api.Span {
	return []api.Span{span(lo, hi), span(lo, lo), span(hi, hi), span((lo+hi)/2, hi), span(lo, (lo+hi)/2)}
}

// Terms: a watch is valid only if its screw is.
func TestValidScrew(t *testing.T) {
	bad := map[string]api.Screw{
		"no turn":       {},
		"an empty list": {Errors: []api.Span{}},
		"41 turns":      {Errors: make([]api.Span, 41)},
	}
	for _, s := range badSpans(-100, 100) {
		bad["first errors"] = api.Screw{Errors: []api.Span{s, {}}}
		bad["last errors"] = api.Screw{Errors: []api.Span{{}, {}, s}}
		bad["eye"] = api.Screw{Errors: make([]api.Span, 3), Eye: s}
		for name, x := range bad {
			refused(t, name, api.Watch{Screw: x, Images: 1, Eyes: 1})
			refused(t, name, api.Watch{Screw: x, Images: 1, Eyes: 1, Looks: []api.Look{look(0, 0, 1)}})
		}
	}
	for _, s := range goodSpans(-100, 100) {
		for _, n := range []int{1, 2, 39, 40} {
			x := api.Screw{Errors: make([]api.Span, n), Eye: s}
			x.Errors[n-1] = s
			taken(t, "a valid screw", api.Watch{Screw: x, Images: 1, Eyes: 1})
			taken(t, "a valid screw", api.Watch{Screw: x, Images: 1, Eyes: 1, Looks: []api.Look{look(0, 0, n*1000-1)}})
		}
	}
}

// Terms: which watches are valid.
func TestValidWatch(t *testing.T) {
	bad := map[string]func(w *api.Watch){
		"no image":                 func(w *api.Watch) { w.Images = 0; w.Looks = nil },
		"images below 0":           func(w *api.Watch) { w.Images = -1; w.Looks = nil },
		"least images of all":      func(w *api.Watch) { w.Images = math.MinInt },
		"7 images":                 func(w *api.Watch) { w.Images = 7 },
		"greatest images of all":   func(w *api.Watch) { w.Images = math.MaxInt },
		"no measurer":              func(w *api.Watch) { w.Eyes = 0; w.Looks = nil },
		"measurers below 0":        func(w *api.Watch) { w.Eyes = -1; w.Looks = nil },
		"least eyes of all":        func(w *api.Watch) { w.Eyes = math.MinInt },
		"5 measurers":              func(w *api.Watch) { w.Eyes = 5 },
		"greatest eyes of all":     func(w *api.Watch) { w.Eyes = math.MaxInt },
		"13 looks":                 func(w *api.Watch) { w.Looks = make([]api.Look, 13) },
		"measurer below 0":         func(w *api.Watch) { w.Looks[4].Eye = -1 },
		"measurer that is none":    func(w *api.Watch) { w.Looks[0].Eye = 3 },
		"least measurer of all":    func(w *api.Watch) { w.Looks[1].Eye = math.MinInt },
		"greatest measurer of all": func(w *api.Watch) { w.Looks[2].Eye = math.MaxInt },
		"image below 0":            func(w *api.Watch) { w.Looks[4].Image = -1 },
		"image that is none":       func(w *api.Watch) { w.Looks[0].Image = 2 },
		"least image of all":       func(w *api.Watch) { w.Looks[1].Image = math.MinInt },
		"greatest image of all":    func(w *api.Watch) { w.Looks[2].Image = math.MaxInt },
		"reading below 0":          func(w *api.Watch) { w.Looks[0].Reading = -1 },
		"turn below 0":             func(w *api.Watch) { w.Looks[4].Reading = -1000 },
		"least reading of all":     func(w *api.Watch) { w.Looks[4].Reading = math.MinInt },
		"turn that is none":        func(w *api.Watch) { w.Looks[4].Reading = 4000 },
		"greatest reading":         func(w *api.Watch) { w.Looks[1].Reading = math.MaxInt },
	}
	for name, spoil := range bad {
		w := example()
		spoil(&w)
		refused(t, name, w)
	}
	good := map[string]func(w *api.Watch){
		"one image":    func(w *api.Watch) { w.Images = 1; w.Looks = w.Looks[:2] },
		"6 images":     func(w *api.Watch) { w.Images = 6; w.Looks[0].Image = 5 },
		"one measurer": func(w *api.Watch) { w.Eyes = 1; w.Looks = w.Looks[:1] },
		"4 measurers":  func(w *api.Watch) { w.Eyes = 4; w.Looks[0].Eye = 3 },
		"12 looks":     func(w *api.Watch) { w.Looks = make([]api.Look, 12) },
		"no look":      func(w *api.Watch) { w.Looks = nil },
		"reading 0":    func(w *api.Watch) { w.Looks[0].Reading = 0 },
		"last reading": func(w *api.Watch) { w.Looks[0].Reading = 3999 },
	}
	for name, change := range good {
		w := example()
		change(&w)
		taken(t, name, w)
	}
}

// Terms: Habit is a valid span within its limits, which contains 0.
func TestValidHabit(t *testing.T) {
	bad := append(badSpans(-200, 200), span(1, 5), span(-5, -1), span(1, 1), span(-1, -1), span(200, 200), span(-200, -200), span(1, -1), span(0, -1), span(1, 0), span(-201, 0), span(0, 201))
	for _, s := range bad {
		w := example()
		w.Habit = s
		refused(t, "a habit", w)
		w.Looks = nil
		refused(t, "a habit, without looks", w)
	}
	for _, s := range []api.Span{span(0, 0), span(-200, 200), span(-200, 0), span(0, 200), span(-1, 0), span(0, 1), span(-1, 1)} {
		w := example()
		w.Habit = s
		taken(t, "a habit", w)
		w.Looks = nil
		taken(t, "a habit, without looks", w)
		got, e := eye.Habit(w, 2)
		same(t, "Habit without looks", got, s)
		same(t, "Habit without looks", e, api.OK)
	}
}

// nones are no numbers of n things.
func nones(n int) []int {
	return []int{-1, n, n + 1, 64, math.MinInt, math.MaxInt}
}

// Errors, R1: ErrRange before ErrClash, and this one before ErrDoubt; and with an error nothing else is told (R2).
func TestOrderOfErrors(t *testing.T) {
	for _, w := range []api.Watch{example(), example(sixth()), exact(span(-5, 5)), apart(2)} {
		for _, none := range nones(w.Eyes) {
			got, e := eye.Habit(w, none)
			same(t, "Habit", got, api.Span{})
			same(t, "Habit", e, api.ErrRange)
			for _, other := range []int{0, w.Eyes - 1, none} {
				got, e = eye.Between(w, none, other)
				same(t, "Between", got, api.Span{})
				same(t, "Between", e, api.ErrRange)
				got, e = eye.Between(w, other, none)
				same(t, "Between", got, api.Span{})
				same(t, "Between", e, api.ErrRange)
			}
		}
		for _, none := range nones(w.Images) {
			got, e := eye.Place(w, none)
			same(t, "Place", got, api.Span{})
			same(t, "Place", e, api.ErrRange)
		}
	}
	clashing := example(sixth())
	clashing.Images = 3
	for _, image := range []int{0, 2} {
		got, e := eye.Place(clashing, image)
		same(t, "Place, no truth", got, api.Span{})
		same(t, "Place, no truth", e, api.ErrClash)
	}
	for _, f := range []func(api.Watch) (int, api.Errno){eye.Sure, eye.Explain} {
		n, e := f(clashing)
		same(t, "a set, no truth", n, 0)
		same(t, "a set, no truth", e, api.ErrClash)
	}
}

// The numbers of measurers and of images are counted each for themselves.
func TestMoreImagesThanMeasurers(t *testing.T) {
	w := api.Watch{Screw: api.Screw{Errors: make([]api.Span, 1)}, Images: 6, Eyes: 1, Looks: []api.Look{look(0, 5, 70)}}
	got, e := eye.Place(w, 5)
	same(t, "the last image", got, span(70, 70))
	same(t, "the last image", e, api.OK)
	_, e = eye.Habit(w, 1)
	same(t, "no second measurer", e, api.ErrRange)
	w = api.Watch{Screw: w.Screw, Images: 1, Eyes: 4, Habit: span(0, 9), Looks: []api.Look{look(3, 0, 70)}}
	got, e = eye.Habit(w, 3)
	same(t, "the last measurer", got, span(0, 9))
	same(t, "the last measurer", e, api.OK)
	_, e = eye.Place(w, 1)
	same(t, "no second image", e, api.ErrRange)
}

// R3: a nil list is an empty one.
func TestNilAndEmpty(t *testing.T) {
	empty, none := exact(span(-5, 5)), exact(span(-5, 5))
	empty.Looks, none.Looks = []api.Look{}, nil
	if a, b := tellAll(empty), tellAll(none); !reflect.DeepEqual(a, b) {
		t.Error(a, b)
	}
}

// P3.6, R4 and the second half of P12: no argument is changed, and what is asked again is told again.
func TestArgumentsStay(t *testing.T) {
	for _, w := range []api.Watch{example(), example(sixth()), exact(span(-5, 5)), row(), apart(3)} {
		before := copyOf(w)
		first := tellAll(w)
		if second := tellAll(w); !reflect.DeepEqual(first, second) {
			t.Error(first, second)
		}
		if !reflect.DeepEqual(copyOf(w), before) {
			t.Error(w, before)
		}
	}
}
