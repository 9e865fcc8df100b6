package screw_test

import (
	"math/bits"
	"math/rand/v2"
	"testing"

	"zoneworks/api"
	"zoneworks/screw"
)

func span(lo, hi int) api.Span { return api.Span{Lo: lo, Hi: hi} }

// up and back are settings in both positions of a plate.
func up(image, reading int) api.Setting { return api.Setting{Image: image, Reading: reading} }
func back(image, reading int) api.Setting {
	return api.Setting{Image: image, Reading: reading, Reversed: true}
}

// screwS is the screw S of the chapter.
func screwS() api.Screw {
	return api.Screw{Errors: []api.Span{span(-2, 2), span(0, 5), span(1, 1), span(-4, 0)}, Eye: span(-3, 3)}
}

// measureM is the measure M of the chapter, with settings more.
func measureM(more ...api.Setting) api.Measure {
	settings := []api.Setting{up(0, 500), back(0, 2504), up(1, 1200), back(1, 1788)}
	return api.Measure{Screw: screwS(), Images: 2, Sum: span(2900, 3100), Settings: append(settings, more...)}
}

// exact is a measure with a screw of two turns, and an eye, that are exact.
func exact(settings ...api.Setting) api.Measure {
	return api.Measure{Screw: api.Screw{Errors: make([]api.Span, 2)}, Images: 4, Sum: span(1000, 1100), Settings: settings}
}

// off is exact, but for an eye that is off by as much.
func off(by int, settings ...api.Setting) api.Measure {
	m := exact(settings...)
	m.Screw.Eye = span(-by, by)
	return m
}

// told is all that the package tells of a measure.
type told struct {
	sum                     api.Span
	place                   []api.Span
	apart                   [][]api.Span
	clash, drop, idle, once int
	errors                  []api.Errno
}

// tellAll calls all functions that ask something of a measure.
func tellAll(m api.Measure) told {
	var t told
	var e api.Errno
	note := func() { t.errors = append(t.errors, e) }
	t.sum, e = screw.Sum(m)
	note()
	for a := range m.Images {
		var p api.Span
		p, e = screw.Place(m, a)
		note()
		t.place = append(t.place, p)
		row := []api.Span{}
		for b := range m.Images {
			p, e = screw.Apart(m, a, b)
			note()
			row = append(row, p)
		}
		t.apart = append(t.apart, row)
	}
	t.clash, e = screw.Clash(m)
	note()
	t.drop, e = screw.Drop(m)
	note()
	t.idle, e = screw.Idle(m)
	note()
	t.once, e = screw.Once(m)
	note()
	return t
}

// copyOf returns a measure that shares no memory with another one.
func copyOf(m api.Measure) api.Measure {
	m.Screw.Errors = append([]api.Span{}, m.Screw.Errors...)
	m.Settings = append([]api.Setting{}, m.Settings...)
	return m
}

// without returns a measure without the settings of a set.
func without(m api.Measure, set int) api.Measure {
	var rest []api.Setting
	for i, s := range m.Settings {
		if set&(1<<i) == 0 {
			rest = append(rest, s)
		}
	}
	m.Settings = rest
	return m
}

// within returns whether a span is no wider than another one.
func within(narrow, wide api.Span) bool {
	return wide.Lo <= narrow.Lo && narrow.Lo <= narrow.Hi && narrow.Hi <= wide.Hi
}

func size(set int) int { return bits.OnesCount(uint(set)) }

// pick returns a number from lo to hi.
func pick(r *rand.Rand, lo, hi int) int { return lo + r.IntN(hi-lo+1) }

// part returns a span within lo to hi.
func part(r *rand.Rand, lo, hi int) api.Span {
	a, b := pick(r, lo, hi), pick(r, lo, hi)
	return span(min(a, b), max(a, b))
}

// small returns a measure that is small enough for all its truths to be gone through. Its readings are on both sides of
// the end of a turn.
func small(r *rand.Rand) api.Measure {
	m := api.Measure{Screw: api.Screw{Errors: []api.Span{part(r, -2, 2), part(r, -2, 2)}, Eye: part(r, -1, 1)}, Images: pick(r, 1, 3)}
	lo := pick(r, 1992, 2004)
	m.Sum = span(lo, lo+pick(r, 0, 5))
	for range pick(r, 0, 5) {
		m.Settings = append(m.Settings, api.Setting{Image: r.IntN(m.Images), Reading: pick(r, 996, 1003), Reversed: r.IntN(2) == 1})
	}
	return m
}

// random returns generators whose numbers are always the same.
func random() *rand.Rand { return rand.New(rand.NewPCG(1, 1)) }

// same fails unless both are the same.
func same[T comparable](t *testing.T, what string, got, want T) {
	t.Helper()
	if got != want {
		t.Errorf("%s: %v, not %v", what, got, want)
	}
}
