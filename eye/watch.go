package eye

import (
	"zoneworks/api"
	"zoneworks/screw"
)

// watch is a watch that is looked at, and the travel of the reading of each of its looks.
type watch struct {
	api.Watch
	travels []api.Span
}

// lookAt looks at a watch; it refuses one that is not valid. Of each reading of a valid one the screw says something.
func lookAt(given api.Watch) *watch {
	insist(valid(given), api.ErrArg)
	w := &watch{Watch: given}
	for _, l := range w.Looks {
		travel, _ := screw.Travel(w.Screw, l.Reading)
		w.travels = append(w.travels, travel)
	}
	return w
}

// insistEye refuses what is no number of a measurer.
func (w *watch) insistEye(eye int) {
	insist(isEye(w.Watch, eye), api.ErrRange)
}

// insistImage refuses what is no number of an image.
func (w *watch) insistImage(image int) {
	insist(isImage(w.Watch, image), api.ErrRange)
}

// looks returns the set of all looks.
func (w *watch) looks() set {
	return all(len(w.Looks))
}

// eyes returns the set of all measurers.
func (w *watch) eyes() set {
	return all(w.Eyes)
}

// ties returns what the looks that count tell, and what is known of habits: who can have none has the habit 0.
func (w *watch) ties(counts, canHave func(number int) bool) []tie {
	ties := make([]tie, 0, w.Eyes+len(w.Looks))
	for eye := range w.Eyes {
		t := tie{from: zero{}, to: habitOf(eye)}
		if canHave(eye) {
			t.by = w.Habit
		}
		ties = append(ties, t)
	}
	for i, l := range w.Looks {
		if counts(i) {
			ties = append(ties, tie{habitOf(l.Eye), placeOf(l.Image), w.travels[i]})
		}
	}
	return ties
}

// can returns whether the looks of a set can all be right if the measurers of a set alone can have habits.
func (w *watch) can(looks, eyes set) bool {
	_, ok := over(zero{}, w.ties(looks.has, eyes.has))
	return ok
}

// truths returns the bounds of all truths over a base; it refuses a watch that has none.
func (w *watch) truths(base one) bounds {
	b, ok := over(base, w.ties(w.looks().has, w.eyes().has))
	insist(ok, api.ErrClash)
	return b
}
