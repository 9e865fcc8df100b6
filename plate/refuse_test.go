package plate

import (
	"testing"

	"zoneworks/api"
)

// P1: whatever panics inside of a function, it is an error outside, and nothing else is told (R2).
func TestAnswerRecovers(t *testing.T) {
	for _, x := range []struct {
		name string
		ask  func() int
		want int
		e    api.Errno
	}{
		{"no panic", func() int { return 7 }, 7, api.OK},
		{"a refusal", func() int { insist(false, api.ErrDoubt); return 7 }, 0, api.ErrDoubt},
		{"no refusal", func() int { insist(true, api.ErrDoubt); return 7 }, 7, api.OK},
		{"another panic", func() int { panic("no error") }, 0, api.ErrArg},
	} {
		if got, e := answer(x.ask); got != x.want || e != x.e {
			t.Error(x.name, got, e)
		}
	}
	a, b, e := answerBoth(func() both { panic("no error") })
	if (a != api.Span{}) || (b != api.Span{}) || e != api.ErrArg {
		t.Error(a, b, e)
	}
}

// The Ways of the chapter: sets are tried the smaller ones first, the least numbers first of those, and no more of them
// than are asked for.
func TestSetsInOrder(t *testing.T) {
	want := []set{0, 2, 4, 16, 32, 6, 18, 20, 34, 36, 48, 22, 38, 50, 52, 54}
	for stop, last := range want {
		var tried []set
		got := fewest(54, func(s set) bool {
			tried = append(tried, s)
			return len(tried) == stop+1
		})
		if got != last || len(tried) != stop+1 {
			t.Error(got, tried)
		}
		for i, s := range tried {
			if s != want[i] {
				t.Error(tried)
			}
		}
	}
	if got := fewest(54, func(set) bool { return false }); got != 0 {
		t.Error(got)
	}
	if got := fewest(0, func(s set) bool { return s == 0 }); got != 0 {
		t.Error(got)
	}
}

// All sets of 10 stars are tried, each of them once.
func TestAllSets(t *testing.T) {
	seen := map[set]bool{}
	tried := 0
	fewest(1<<api.PlateStars-1, func(s set) bool { seen[s] = true; tried++; return false })
	if tried != 1<<api.PlateStars || len(seen) != tried {
		t.Error(tried, len(seen))
	}
}

// The Ways of the chapter: each thing is at most the next one.
func TestRising(t *testing.T) {
	for _, x := range []struct {
		things []int
		want   bool
	}{
		{nil, true}, {[]int{5}, true}, {[]int{5, 5}, true}, {[]int{-5, 4, 4, 9}, true}, {[]int{5, 4}, false}, {[]int{1, 3, 2, 4}, false}, {[]int{2, 3, 4, 1}, false}, {[]int{4, 1, 2, 3}, false},
	} {
		if got := rising(x.things...); got != x.want {
			t.Error(x.things, got)
		}
	}
	if !rising("a", "a", "b") || rising("b", "a") {
		t.Error("texts")
	}
}

// The Ways of the chapter: what is kept is the least and the greatest of all, in which order it comes; what is not there
// is not kept.
func TestKept(t *testing.T) {
	var k kept[int]
	k.keep(3, 2)
	if k.there {
		t.Error(k)
	}
	for _, x := range []struct{ least, most, wantLeast, wantMost int }{
		{7, 9, 7, 9}, {8, 8, 7, 9}, {8, 7, 7, 9}, {99, -99, 7, 9}, {5, 6, 5, 9}, {11, 12, 5, 12}, {0, 20, 0, 20},
	} {
		k.keep(x.least, x.most)
		if !k.there || k.least != x.wantLeast || k.most != x.wantMost {
			t.Error(x, k)
		}
	}
}

// The Ways of the chapter: scales come from the least one on, only those that there can be, and only as long as they are
// asked for.
func TestScalesInOrder(t *testing.T) {
	exact := func(x, east int) api.Star {
		return api.Star{X: only(x), Known: true, East: only(east)}
	}
	l := lookAt(api.Plate{Scale: api.Span{Lo: 46, Hi: 73}, Stars: []api.Star{exact(39, 0), exact(288, 13)}})
	want := []int{49, 50, 51, 53, 54, 55}
	for stop := range want {
		var got []int
		for scale, corners := range l.scales(3) {
			got = append(got, scale)
			if corners[0] != only(-scale*39/1000) || corners[1] != only(0) {
				t.Error(scale, corners)
			}
			if len(got) == stop+1 {
				break
			}
		}
		for i, scale := range got {
			if scale != want[i] {
				t.Error(stop, got)
			}
		}
		if len(got) != stop+1 {
			t.Error(stop, got)
		}
	}
	all := 0
	for range l.scales(1) {
		all++
	}
	if all != 28 {
		t.Error(all)
	}
}
