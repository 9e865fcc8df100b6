package eye_test

import (
	"math/bits"
	"math/rand/v2"
	"testing"

	"zoneworks/api"
	"zoneworks/eye"
)

func span(lo, hi int) api.Span { return api.Span{Lo: lo, Hi: hi} }

func look(eye, image, reading int) api.Look {
	return api.Look{Eye: eye, Image: image, Reading: reading}
}

// sixth is the sixth look of the chapter.
func sixth() api.Look { return look(2, 0, 560) }

// sample is the watch of the chapter with another Habit, and looks more.
func sample(habit api.Span, more ...api.Look) api.Watch {
	s := api.Screw{Errors: []api.Span{span(-2, 2), span(0, 5), span(1, 1), span(-4, 0)}, Eye: span(-3, 3)}
	looks := []api.Look{look(0, 0, 500), look(1, 0, 512), look(0, 1, 1200), look(1, 1, 1213), look(2, 1, 1203)}
	return api.Watch{Screw: s, Images: 2, Eyes: 3, Habit: habit, Looks: append(looks, more...)}
}

// example is the watch of the chapter.
func example(more ...api.Look) api.Watch { return sample(span(-20, 20), more...) }

// exact is a watch of four measurers with a screw, and an eye, that are exact.
func exact(habit api.Span, looks ...api.Look) api.Watch {
	return api.Watch{Screw: api.Screw{Errors: make([]api.Span, 2)}, Images: 4, Eyes: 4, Habit: habit, Looks: looks}
}

// off is exact, but for an eye that is off by as much.
func off(by int, habit api.Span, looks ...api.Look) api.Watch {
	w := exact(habit, looks...)
	w.Screw.Eye = span(-by, by)
	return w
}

// told is all that the package tells of a watch.
type told struct {
	habit                      []api.Span
	between                    [][]api.Span
	place                      []api.Span
	sure, clash, drop, explain int
	errors                     []api.Errno
}

// tellAll calls all functions of the package.
func tellAll(w api.Watch) told {
	var t told
	var e api.Errno
	var s api.Span
	note := func() { t.errors = append(t.errors, e) }
	for a := range w.Eyes {
		s, e = eye.Habit(w, a)
		note()
		t.habit = append(t.habit, s)
		row := []api.Span{}
		for b := range w.Eyes {
			s, e = eye.Between(w, a, b)
			note()
			row = append(row, s)
		}
		t.between = append(t.between, row)
	}
	for image := range w.Images {
		s, e = eye.Place(w, image)
		note()
		t.place = append(t.place, s)
	}
	t.sure, e = eye.Sure(w)
	note()
	t.clash, e = eye.Clash(w)
	note()
	t.drop, e = eye.Drop(w)
	note()
	t.explain, e = eye.Explain(w)
	note()
	return t
}

// can returns whether there is a truth.
func can(w api.Watch) bool {
	_, e := eye.Sure(w)
	return e == api.OK
}

// copyOf returns a watch that shares no memory with another one.
func copyOf(w api.Watch) api.Watch {
	w.Screw.Errors = append([]api.Span{}, w.Screw.Errors...)
	w.Looks = append([]api.Look{}, w.Looks...)
	return w
}

// without returns a watch without the looks of a set.
func without(w api.Watch, set int) api.Watch {
	var rest []api.Look
	for i, l := range w.Looks {
		if set&(1<<i) == 0 {
			rest = append(rest, l)
		}
	}
	w.Looks = rest
	return w
}

// within returns whether a span is no wider than another one.
func within(narrow, wide api.Span) bool {
	return wide.Lo <= narrow.Lo && narrow.Lo <= narrow.Hi && narrow.Hi <= wide.Hi
}

func size(set int) int { return bits.OnesCount(uint(set)) }

// pick returns a number from lo to hi.
func pick(r *rand.Rand, lo, hi int) int { return lo + r.IntN(hi-lo+1) }

// part returns a span within lo to hi.
func part(r *rand.Rand, lo, hi int) api.Span {
	a, b := pick(r, lo, hi), pick(r, lo, hi)
	return span(min(a, b), max(a, b))
}

// small returns a watch that is small enough for all its truths to be gone through. Its readings are on both sides of
// the end of a turn.
func small(r *rand.Rand) api.Watch {
	w := api.Watch{Images: pick(r, 1, 3), Eyes: pick(r, 1, 3), Habit: span(pick(r, -3, 0), pick(r, 0, 3))}
	w.Screw.Errors = []api.Span{part(r, -2, 2), part(r, -2, 2)}
	w.Screw.Eye = part(r, -1, 1)
	for range pick(r, 0, 6) {
		w.Looks = append(w.Looks, look(r.IntN(w.Eyes), r.IntN(w.Images), pick(r, 997, 1002)))
	}
	return w
}

// random returns generators whose numbers are always the same.
func random() *rand.Rand { return rand.New(rand.NewPCG(3, 3)) }

// same fails unless both are the same.
func same[T comparable](t *testing.T, what string, got, want T) {
	t.Helper()
	if got != want {
		t.Errorf("%s: %v, not %v", what, got, want)
	}
}
