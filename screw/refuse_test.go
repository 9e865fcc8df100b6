package screw

import (
	"testing"

	"zoneworks/api"
)

// P1: whatever panics inside of a function, it is an error outside, and nothing else is told (R2).
func TestAnswerRecovers(t *testing.T) {
	for _, x := range []struct {
		name string
		ask  func() int
		want int
		e    api.Errno
	}{
		{"no panic", func() int { return 7 }, 7, api.OK},
		{"a refusal", func() int { insist(false, api.ErrDoubt); return 7 }, 0, api.ErrDoubt},
		{"no refusal", func() int { insist(true, api.ErrDoubt); return 7 }, 7, api.OK},
		{"another panic", func() int { panic("no error") }, 0, api.ErrArg},
	} {
		if got, e := answer(x.ask); got != x.want || e != x.e {
			t.Error(x.name, got, e)
		}
	}
}

// The Ways of the chapter: sets come the smaller ones first, and only as long as they are asked for.
func TestSetsInOrder(t *testing.T) {
	want := []int{0, 1, 2, 4, 3, 5, 6, 7}
	for stop := range want {
		var got []int
		for set := range sets(3) {
			got = append(got, set)
			if len(got) == stop+1 {
				break
			}
		}
		for i, set := range got {
			if set != want[i] {
				t.Error(stop, got)
			}
		}
	}
	for set := range sets(0) {
		if set != 0 {
			t.Error(set)
		}
	}
}
