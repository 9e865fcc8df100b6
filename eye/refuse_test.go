package eye

import (
	"testing"

	"zoneworks/api"
)

// P1: whatever panics inside of a function, it is an error outside, and nothing else is told (R2).
func TestAnswerRecovers(t *testing.T) {
	for _, x := range []struct {
		name string
		ask  func() int
		want int
		e    api.Errno
	}{
		{"no panic", func() int { return 7 }, 7, api.OK},
		{"a refusal", func() int { insist(false, api.ErrDoubt); return 7 }, 0, api.ErrDoubt},
		{"no refusal", func() int { insist(true, api.ErrDoubt); return 7 }, 7, api.OK},
		{"another panic", func() int { panic("no error") }, 0, api.ErrArg},
	} {
		if got, e := answer(x.ask); got != x.want || e != x.e {
			t.Error(x.name, got, e)
		}
	}
}

// The Ways of the chapter: sets come the smaller ones first, and only as long as they are asked for.
func TestSetsInOrder(t *testing.T) {
	want := []set{0, 1, 2, 4, 3, 5, 6, 7}
	for stop := range want {
		var got []set
		for s := range sets(3) {
			got = append(got, s)
			if len(got) == stop+1 {
				break
			}
		}
		for i, s := range got {
			if s != want[i] {
				t.Error(stop, got)
			}
		}
	}
	for s := range sets(0) {
		if s != 0 {
			t.Error(s)
		}
	}
}

// The Ways of the chapter: the first that is as asked is found, and no other one is asked for then.
func TestFirst(t *testing.T) {
	asked := 0
	got := first(sets(4), func(s set) bool { asked++; return s.has(2) })
	if got != 4 || asked != 4 {
		t.Error(got, asked)
	}
	if got := first(sets(4), func(set) bool { return false }); got != 0 {
		t.Error(got)
	}
}

// Everything between which there are bounds has a number of its own.
func TestNumbers(t *testing.T) {
	seen := map[int]bool{}
	all := []one{zero{}}
	for eye := range api.EyeMany {
		all = append(all, habitOf(eye))
	}
	for image := range api.ScrewImages {
		all = append(all, placeOf(image))
	}
	for _, x := range all {
		n := x.number()
		if n < 0 || n >= numbers || seen[n] {
			t.Error(x, n)
		}
		seen[n] = true
	}
	if len(seen) != numbers {
		t.Error(seen)
	}
}
