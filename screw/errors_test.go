package screw_test

import (
	"math"
	"reflect"
	"testing"

	"zoneworks/api"
	"zoneworks/screw"
)

// refused fails unless each function refuses a measure with ErrArg, whatever else is wrong, and tells nothing (R1, R2).
func refused(t *testing.T, name string, m api.Measure) {
	t.Helper()
	for _, image := range []int{0, -1, 99} {
		s, e := screw.Place(m, image)
		same(t, "Place, "+name, s, api.Span{})
		same(t, "Place, "+name, e, api.ErrArg)
		s, e = screw.Apart(m, image, 0)
		same(t, "Apart, "+name, s, api.Span{})
		same(t, "Apart, "+name, e, api.ErrArg)
		s, e = screw.Apart(m, 0, image)
		same(t, "Apart, "+name, s, api.Span{})
		same(t, "Apart, "+name, e, api.ErrArg)
	}
	s, e := screw.Sum(m)
	same(t, "Sum, "+name, s, api.Span{})
	same(t, "Sum, "+name, e, api.ErrArg)
	for _, f := range []func(api.Measure) (int, api.Errno){screw.Clash, screw.Drop, screw.Idle, screw.Once} {
		n, e := f(m)
		same(t, "a set, "+name, n, 0)
		same(t, "a set, "+name, e, api.ErrArg)
	}
}

// taken fails unless a measure is valid.
func taken(t *testing.T, name string, m api.Measure) {
	t.Helper()
	if _, e := screw.Once(m); e != api.OK {
		t.Errorf("Once, %s: %v", name, e)
	}
	if _, e := screw.Sum(m); e != api.OK && e != api.ErrClash {
		t.Errorf("Sum, %s: %v", name, e)
	}
}

// badSpans are not valid, or not from lo to hi.
func badSpans(lo, hi int) []api.Span {
	return []api.Span{span(lo+1, lo), span(hi, hi-1), span(hi, lo), span(lo-1, lo), span(lo-1, hi), span(hi, hi+1), span(lo, hi+1), span(lo-1, lo-1), span(hi+1, hi+1), span(math.MinInt, math.MaxInt), span(math.MaxInt, math.MinInt), span(math.MinInt, 0), span(0, math.MaxInt)}
}

// goodSpans are valid, and from lo to hi.
func goodSpans(lo, hi int) []api.Span {
	return []api.Span{span(lo, hi), span(lo, lo), span(hi, hi), span((lo+hi)/2, hi), span(lo, (lo+hi)/2)}
}

// Terms: which screws are valid.
func TestValidScrew(t *testing.T) {
	bad := map[string]api.Screw{
		"no turn":       {},
		"an empty list": {Errors: []api.Span{}},
		"41 turns":      {Errors: make([]api.Span, 41)},
	}
	for _, s := range badSpans(-100, 100) {
		bad["first errors"] = api.Screw{Errors: []api.Span{s, {}}}
		bad["last errors"] = api.Screw{Errors: []api.Span{{}, {}, s}}
		bad["eye"] = api.Screw{Errors: make([]api.Span, 3), Eye: s}
		for name, x := range bad {
			for _, reading := range []int{0, -1, 1_000_000} {
				got, e := screw.Travel(x, reading)
				same(t, "Travel, "+name, got, api.Span{})
				same(t, "Travel, "+name, e, api.ErrArg)
			}
			refused(t, name, api.Measure{Screw: x, Images: 1})
			refused(t, name, api.Measure{Screw: x, Images: 1, Settings: []api.Setting{up(0, 0), back(0, 1)}})
		}
	}
	for _, s := range goodSpans(-100, 100) {
		for _, n := range []int{1, 2, 39, 40} {
			x := api.Screw{Errors: make([]api.Span, n), Eye: s}
			x.Errors[n-1] = s
			got, e := screw.Travel(x, n*1000-1)
			same(t, "Travel, a valid screw", got, span(n*1000-1+2*s.Lo, n*1000-1+2*s.Hi))
			same(t, "Travel, a valid screw", e, api.OK)
			taken(t, "a valid screw", api.Measure{Screw: x, Images: 1})
		}
	}
}

// Terms: which measures are valid.
func TestValidMeasure(t *testing.T) {
	bad := map[string]func(m *api.Measure){
		"no image":               func(m *api.Measure) { m.Images = 0; m.Settings = nil },
		"images below 0":         func(m *api.Measure) { m.Images = -1; m.Settings = nil },
		"least images of all":    func(m *api.Measure) { m.Images = math.MinInt },
		"7 images":               func(m *api.Measure) { m.Images = 7 },
		"greatest images of all": func(m *api.Measure) { m.Images = math.MaxInt },
		"13 settings":            func(m *api.Measure) { m.Settings = make([]api.Setting, 13) },
		"image below 0":          func(m *api.Measure) { m.Settings[3].Image = -1 },
		"image that is none":     func(m *api.Measure) { m.Settings[0].Image = 2 },
		"least image of all":     func(m *api.Measure) { m.Settings[1].Image = math.MinInt },
		"greatest image of all":  func(m *api.Measure) { m.Settings[2].Image = math.MaxInt },
		"reading below 0":        func(m *api.Measure) { m.Settings[0].Reading = -1 },
		"turn below 0":           func(m *api.Measure) { m.Settings[3].Reading = -1000 },
		"least reading of all":   func(m *api.Measure) { m.Settings[3].Reading = math.MinInt },
		"turn that is none":      func(m *api.Measure) { m.Settings[3].Reading = 4000 },
		"greatest reading":       func(m *api.Measure) { m.Settings[1].Reading = math.MaxInt },
	}
	for name, spoil := range bad {
		m := measureM()
		spoil(&m)
		refused(t, name, m)
	}
	for _, s := range badSpans(0, 1<<17) {
		m := measureM()
		m.Sum = s
		refused(t, "a sum", m)
		m.Settings = nil
		refused(t, "a sum, without settings", m)
	}
	for _, s := range goodSpans(0, 1<<17) {
		m := measureM()
		m.Sum = s
		taken(t, "a sum", m)
		m.Settings = nil
		got, e := screw.Sum(m)
		same(t, "Sum without settings", got, s)
		same(t, "Sum without settings", e, api.OK)
	}
	good := map[string]func(m *api.Measure){
		"one image":    func(m *api.Measure) { m.Images = 1; m.Settings = m.Settings[:2] },
		"6 images":     func(m *api.Measure) { m.Images = 6; m.Settings[0].Image = 5 },
		"12 settings":  func(m *api.Measure) { m.Settings = make([]api.Setting, 12) },
		"reading 0":    func(m *api.Measure) { m.Settings[0].Reading = 0 },
		"last reading": func(m *api.Measure) { m.Settings[0].Reading = 3999 },
	}
	for name, change := range good {
		m := measureM()
		change(&m)
		taken(t, name, m)
	}
}

// Errors, R1: ErrRange before ErrClash, and this one before ErrDoubt; and with an error nothing else is told (R2).
func TestOrderOfErrors(t *testing.T) {
	clashing := measureM(up(0, 520))
	for _, m := range []api.Measure{measureM(), clashing, exact(), exact(up(0, 1), up(0, 2))} {
		for _, none := range []int{-1, m.Images, m.Images + 1, 64, math.MinInt, math.MaxInt} {
			got, e := screw.Place(m, none)
			same(t, "Place", got, api.Span{})
			same(t, "Place", e, api.ErrRange)
			for _, image := range []int{0, 1, none} {
				got, e = screw.Apart(m, image, none)
				same(t, "Apart", got, api.Span{})
				same(t, "Apart", e, api.ErrRange)
				got, e = screw.Apart(m, none, image)
				same(t, "Apart", got, api.Span{})
				same(t, "Apart", e, api.ErrRange)
			}
		}
	}
	clashing.Images = 3
	for _, image := range []int{0, 2} {
		got, e := screw.Place(clashing, image)
		same(t, "Place, no truth", got, api.Span{})
		same(t, "Place, no truth", e, api.ErrClash)
		got, e = screw.Apart(clashing, image, 2)
		same(t, "Apart, no truth", got, api.Span{})
		same(t, "Apart, no truth", e, api.ErrClash)
	}
	last := measureM()
	last.Images = 3
	for _, x := range [][2]int{{0, 2}, {2, 0}} {
		got, e := screw.Apart(last, x[0], x[1])
		same(t, "Apart, one not set on", got, api.Span{})
		same(t, "Apart, one not set on", e, api.ErrDoubt)
	}
}

// R3: a nil list is an empty one.
func TestNilAndEmpty(t *testing.T) {
	empty, none := exact(), exact()
	empty.Settings, none.Settings = []api.Setting{}, nil
	if a, b := tellAll(empty), tellAll(none); !reflect.DeepEqual(a, b) {
		t.Error(a, b)
	}
}

// R4 and the second half of P12: no argument is changed, and what is asked again is told again.
func TestArgumentsStay(t *testing.T) {
	for _, m := range []api.Measure{measureM(), measureM(up(0, 520)), exact(), exact(back(3, 9))} {
		before := copyOf(m)
		first := tellAll(m)
		if _, e := screw.Travel(m.Screw, 500); e != api.OK {
			t.Error(e)
		}
		if second := tellAll(m); !reflect.DeepEqual(first, second) {
			t.Error(first, second)
		}
		if !reflect.DeepEqual(copyOf(m), before) {
			t.Error(m, before)
		}
	}
}
