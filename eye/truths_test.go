package eye_test

import (
	"reflect"
	"testing"

	"zoneworks/api"
)

// A slow way, which goes through all habits, and all places: every small watch is told by it, too.

// leastPlace is less than each place of a small watch; places are bits from it on.
const leastPlace = 970

// travels returns all travels of a reading, as bits.
func travels(s api.Screw, reading int) uint64 {
	var all uint64
	turn := s.Errors[reading/1000]
	for e := turn.Lo; e <= turn.Hi; e++ {
		for y := s.Eye.Lo; y <= s.Eye.Hi; y++ {
			all |= 1 << (reading + e + y - leastPlace)
		}
	}
	return all
}

// moved returns places that are greater by as much.
func moved(places uint64, by int) uint64 {
	if by < 0 {
		return places >> -by
	}
	return places << by
}

// truth is the habits of measurers, and the places that each image can have with them; all bits if it can have any.
type truth struct {
	habits []int
	places []uint64
}

// habitsOf returns all habits that as many measurers can have.
func habitsOf(eyes int, habit api.Span) [][]int {
	all := [][]int{nil}
	for range eyes {
		var more [][]int
		for _, x := range all {
			for h := habit.Lo; h <= habit.Hi; h++ {
				more = append(more, append(append([]int{}, x...), h))
			}
		}
		all = more
	}
	return all
}

// truthsOf returns all truths of the looks of a set.
func truthsOf(w api.Watch, set int) []truth {
	var all []truth
next:
	for _, habits := range habitsOf(w.Eyes, w.Habit) {
		x := truth{habits, make([]uint64, w.Images)}
		for image := range x.places {
			x.places[image] = ^uint64(0)
		}
		for i, l := range w.Looks {
			if set&(1<<i) != 0 {
				x.places[l.Image] &= moved(travels(w.Screw, l.Reading), habits[l.Eye])
			}
		}
		for _, places := range x.places {
			if places == 0 {
				continue next
			}
		}
		all = append(all, x)
	}
	return all
}

// spanOf returns the least and the greatest of what truths have.
func spanOf(all []truth, has func(x truth) api.Span) api.Span {
	var s api.Span
	for i, x := range all {
		n := has(x)
		if i == 0 {
			s = n
		}
		s = span(min(s.Lo, n.Lo), max(s.Hi, n.Hi))
	}
	return s
}

// only returns the span of one number.
func only(n int) api.Span { return span(n, n) }

// ends returns the least and the greatest of places.
func ends(places uint64) api.Span {
	s, found := api.Span{}, false
	for bit := range 64 {
		if places&(1<<bit) == 0 {
			continue
		}
		if !found {
			s.Lo = leastPlace + bit
		}
		s.Hi, found = leastPlace+bit, true
	}
	return s
}

// slowSet returns the smallest set that is as asked, with the least number.
func slowSet(n int, asked func(set int) bool) int {
	best := -1
	for set := range 1 << n {
		if asked(set) && (best < 0 || size(set) < size(best)) {
			best = set
		}
	}
	return max(best, 0)
}

// slowSets tells the sets of a watch of which these are all truths.
func slowSets(w api.Watch, truths []truth, t *told) {
	all := 1<<len(w.Looks) - 1
	can := func(set int) bool { return len(truthsOf(w, set)) > 0 }
	t.clash = slowSet(len(w.Looks), func(set int) bool { return !can(set) })
	t.drop = slowSet(len(w.Looks), func(set int) bool { return can(all &^ set) })
	if len(truths) == 0 {
		return
	}
	for a := range w.Eyes {
		s := 1 << a
		for _, x := range truths {
			if x.habits[a] == 0 {
				s = 0
			}
		}
		t.sure |= s
	}
	t.explain = slowSet(w.Eyes, func(set int) bool {
		for _, x := range truths {
			ok := true
			for a, h := range x.habits {
				ok = ok && (h == 0 || set&(1<<a) != 0)
			}
			if ok {
				return true
			}
		}
		return false
	})
}

// slowly returns what tellAll has to, found by going through all truths.
func slowly(w api.Watch) told {
	truths := truthsOf(w, 1<<len(w.Looks)-1)
	var t told
	note := func(s api.Span, e api.Errno) api.Span {
		if len(truths) == 0 {
			s, e = api.Span{}, api.ErrClash
		}
		t.errors = append(t.errors, e)
		return s
	}
	for a := range w.Eyes {
		t.habit = append(t.habit, note(spanOf(truths, func(x truth) api.Span { return only(x.habits[a]) }), api.OK))
		row := []api.Span{}
		for b := range w.Eyes {
			row = append(row, note(spanOf(truths, func(x truth) api.Span { return only(x.habits[b] - x.habits[a]) }), api.OK))
		}
		t.between = append(t.between, row)
	}
	for image := range w.Images {
		s, e := spanOf(truths, func(x truth) api.Span { return ends(x.places[image]) }), api.ErrDoubt
		for _, l := range w.Looks {
			if l.Image == image {
				e = api.OK
			}
		}
		if e != api.OK {
			s = api.Span{}
		}
		t.place = append(t.place, note(s, e))
	}
	slowSets(w, truths, &t)
	note(api.Span{}, api.OK)
	t.errors = append(t.errors, api.OK, api.OK)
	note(api.Span{}, api.OK)
	return t
}

// P3.1 to P3.5, P3.7: all that is told is what all truths have, and both ends of each span are reached; sets are the
// smallest ones, with the least numbers.
func TestAgainstAllTruths(t *testing.T) {
	r := random()
	clashes, sure, explained := 0, 0, 0
	for i := range 1500 {
		w := small(r)
		got, want := tellAll(w), slowly(w)
		if !reflect.DeepEqual(got, want) {
			t.Fatalf("%d: %+v\n%+v, not\n%+v", i, w, got, want)
		}
		for n, set := range map[*int]int{&clashes: want.clash, &sure: want.sure, &explained: want.explain} {
			if set != 0 {
				*n++
			}
		}
	}
	if clashes < 200 || sure < 30 || explained < 60 {
		t.Error("too few watches of a kind:", clashes, sure, explained)
	}
}
