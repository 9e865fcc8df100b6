package screw_test

import (
	"fmt"
	"maps"
	"reflect"
	"testing"

	"zoneworks/api"
	"zoneworks/screw"
)

// A slow way, which goes through all integers: every small measure is told by it, too.

// travels returns all travels of a reading.
func travels(s api.Screw, reading int) map[int]bool {
	all := map[int]bool{}
	turn := s.Errors[reading/1000]
	for e := turn.Lo; e <= turn.Hi; e++ {
		for y := s.Eye.Lo; y <= s.Eye.Hi; y++ {
			all[reading+e+y] = true
		}
	}
	return all
}

// truth is a sum, and the places that each image can have with it: nil if it can have any.
type truth struct {
	sum    int
	places [][]int
}

// truthsOf returns all truths of the settings of a set.
func truthsOf(m api.Measure, set int) []truth {
	var all []truth
	right := make([]map[int]bool, len(m.Settings))
	for i, s := range m.Settings {
		right[i] = travels(m.Screw, s.Reading)
	}
next:
	for sum := m.Sum.Lo; sum <= m.Sum.Hi; sum++ {
		x := truth{sum, make([][]int, m.Images)}
		for image := range m.Images {
			free := true
			can := []int{}
			for i, s := range m.Settings {
				free = free && (s.Image != image || set&(1<<i) == 0)
			}
			if free {
				continue
			}
		places:
			for place := 980; place <= 1020; place++ {
				for i, s := range m.Settings {
					at := place
					if s.Reversed {
						at = sum - place
					}
					if s.Image == image && set&(1<<i) != 0 && !right[i][at] {
						continue places
					}
				}
				can = append(can, place)
			}
			if len(can) == 0 {
				continue next
			}
			x.places[image] = can
		}
		all = append(all, x)
	}
	return all
}

// wider returns a span that contains a number, too.
func wider(s *api.Span, known *bool, n int) {
	if !*known {
		*s, *known = span(n, n), true
	}
	s.Lo, s.Hi = min(s.Lo, n), max(s.Hi, n)
}

// spanOf returns the least and the greatest of what some truths have, if they have any.
func spanOf(all []truth, has func(x truth) []int) (api.Span, bool) {
	s, known := api.Span{}, false
	for _, x := range all {
		for _, n := range has(x) {
			wider(&s, &known, n)
		}
	}
	return s, known
}

// slowSet returns the smallest set that is as asked, with the least number.
func slowSet(n int, asked func(set int) bool) int {
	best := -1
	for set := range 1 << n {
		if asked(set) && (best < 0 || size(set) < size(best)) {
			best = set
		}
	}
	return max(best, 0)
}

// slowly returns what tellAll has to, found by going through all truths.
func slowly(m api.Measure) told {
	all := 1<<len(m.Settings) - 1
	truths := truthsOf(m, all)
	can := func(set int) bool { return len(truthsOf(m, set)) > 0 }
	var t told
	note := func(s api.Span, e api.Errno) api.Span {
		if len(truths) == 0 {
			s, e = api.Span{}, api.ErrClash
		}
		t.errors = append(t.errors, e)
		return s
	}
	sums, _ := spanOf(truths, func(x truth) []int { return []int{x.sum} })
	t.sum = note(sums, api.OK)
	for a := range m.Images {
		s, known := spanOf(truths, func(x truth) []int { return x.places[a] })
		t.place = append(t.place, note(s, doubt(known)))
		row := []api.Span{}
		for b := range m.Images {
			s, known := spanOf(truths, func(x truth) []int { return differences(x.places[a], x.places[b]) })
			if a == b {
				s, known = api.Span{}, true
			}
			row = append(row, note(s, doubt(known)))
		}
		t.apart = append(t.apart, row)
	}
	t.clash = slowSet(len(m.Settings), func(set int) bool { return !can(set) })
	t.drop = slowSet(len(m.Settings), func(set int) bool { return can(all &^ set) })
	t.errors = append(t.errors, api.OK, api.OK)
	for i := range m.Settings {
		if reflect.DeepEqual(truths, truthsOf(m, all&^(1<<i))) {
			t.idle |= 1 << i
		}
	}
	if note(api.Span{}, api.OK); len(truths) == 0 {
		t.idle = 0
	}
	positions := map[int]map[bool]bool{}
	for _, s := range m.Settings {
		if positions[s.Image] == nil {
			positions[s.Image] = map[bool]bool{}
		}
		positions[s.Image][s.Reversed] = true
	}
	for image := range maps.Keys(positions) {
		if len(positions[image]) == 1 {
			t.once |= 1 << image
		}
	}
	t.errors = append(t.errors, api.OK)
	return t
}

func doubt(known bool) api.Errno {
	if known {
		return api.OK
	}
	return api.ErrDoubt
}

// differences returns by how much each of some numbers is greater than each of others.
func differences(less, greater []int) []int {
	var all []int
	for _, a := range less {
		for _, b := range greater {
			all = append(all, b-a)
		}
	}
	return all
}

// P1.2 to P1.9: all that is told is what all truths have, and both ends of each span are reached; sets are the smallest
// ones, with the least numbers.
func TestAgainstAllTruths(t *testing.T) {
	r := random()
	clashes, idle := 0, 0
	for i := range 1500 {
		m := small(r)
		got, want := tellAll(m), slowly(m)
		if !reflect.DeepEqual(got, want) {
			t.Fatalf("%d: %+v\n%+v, not\n%+v", i, m, got, want)
		}
		if want.clash != 0 {
			clashes++
		}
		if want.idle != 0 {
			idle++
		}
	}
	if clashes < 100 || idle < 100 {
		t.Error("too few measures of a kind:", clashes, idle)
	}
}

// P1.1: the travels are all integers from the least to the greatest one.
func TestTravelAgainstAll(t *testing.T) {
	r := random()
	for range 500 {
		s := api.Screw{Errors: []api.Span{part(r, -30, 30), part(r, -30, 30)}, Eye: part(r, -20, 20)}
		reading := pick(r, 0, 1999)
		all := travels(s, reading)
		got, e := screw.Travel(s, reading)
		if e != api.OK || len(all) != got.Hi-got.Lo+1 || !all[got.Lo] || !all[got.Hi] {
			t.Fatal(s, reading, got, e, fmt.Sprint(all))
		}
	}
}
