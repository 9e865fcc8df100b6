package overlap

import (
	"maps"
	"slices"
	"testing"

	"zoneworks/api"
)

// P1: whatever panics inside of a function, it is an error outside, and nothing else is told (R2).
func TestAnswerRecovers(t *testing.T) {
	for _, x := range []struct {
		name string
		ask  func() int
		want int
		e    api.Errno
	}{
		{"no panic", func() int { return 7 }, 7, api.OK},
		{"a refusal", func() int { insist(false, api.ErrRange); return 7 }, 0, api.ErrRange},
		{"no refusal", func() int { insist(true, api.ErrRange); return 7 }, 7, api.OK},
		{"another panic", func() int { panic("no error") }, 0, api.ErrArg},
	} {
		if got, e := answer(x.ask); got != x.want || e != x.e {
			t.Error(x.name, got, e)
		}
	}
}

// The Ways of the chapter: sets come from an iterator, the smaller ones first, the least numbers first of those, each of
// them once, and no more of them than are asked for.
func TestSetsInOrder(t *testing.T) {
	want := []set{0, 1, 2, 4, 8, 3, 5, 6, 9, 10, 12, 7, 11, 13, 14, 15}
	for stop, last := range want {
		var tried []set
		got := first(sets(4), func(s set) bool {
			tried = append(tried, s)
			return s == last
		})
		if got != last || !slices.Equal(tried, want[:stop+1]) {
			t.Error(got, tried)
		}
	}
	if got := first(sets(4), func(set) bool { return false }); got != 0 {
		t.Error(got)
	}
	for n := range api.ZoneOverlaps + 1 {
		seen := map[set]bool{}
		for s := range sets(n) {
			seen[s] = true
		}
		if len(seen) != 1<<n || len(slices.Collect(sets(n))) != 1<<n {
			t.Error(n, len(seen))
		}
	}
}

// The Ways of the chapter: the greatest of several errors, 0 if there are none.
func TestGreatestSize(t *testing.T) {
	for _, x := range []struct {
		errors []int
		want   int
	}{
		{nil, 0}, {[]int{0}, 0}, {[]int{5}, 5}, {[]int{-5}, 5}, {[]int{3, -5}, 5}, {[]int{-3, 5, 4}, 5}, {[]int{6, 5, -4}, 6},
	} {
		if got := greatest(x.errors...); got != x.want {
			t.Error(x.errors, got)
		}
	}
}

// Terms: which plates are linked, by the least of them.
func TestLinked(t *testing.T) {
	for _, x := range []struct {
		plates int
		pairs  [][2]int
		want   map[int][]int
	}{
		{1, nil, map[int][]int{0: {0}}},
		{3, nil, map[int][]int{0: {0}, 1: {1}, 2: {2}}},
		{3, [][2]int{{2, 1}}, map[int][]int{0: {0}, 1: {1, 2}}},
		{4, [][2]int{{0, 1}, {2, 3}, {3, 1}}, map[int][]int{0: {0, 1, 2, 3}}},
		{4, [][2]int{{0, 3}, {3, 0}, {0, 3}}, map[int][]int{0: {0, 3}, 1: {1}, 2: {2}}},
		{6, [][2]int{{5, 4}, {4, 2}, {1, 3}, {3, 5}}, map[int][]int{0: {0}, 1: {1, 2, 3, 4, 5}}},
	} {
		z := api.Zone{Plates: x.plates}
		for _, p := range x.pairs {
			z.Overlaps = append(z.Overlaps, api.Overlap{First: p[0], Second: p[1]})
		}
		got := linked(z)
		for _, group := range got {
			slices.Sort(group)
		}
		if !maps.EqualFunc(got, x.want, slices.Equal) {
			t.Error(x.pairs, got)
		}
	}
}

// The Ways of the chapter: corrections that are gathered are copies; those of the zone stay, also behind its list.
func TestAnchored(t *testing.T) {
	behind := []api.Fix{{Plate: 2, East: 5, North: 6}, {Plate: 3, East: 7, North: 8}}
	z := api.Zone{Plates: 4, Overlaps: []api.Overlap{{First: 3, Second: 2}}, Fixed: behind[:1]}
	want := []api.Fix{{Plate: 2, East: 5, North: 6}, {Plate: 0}, {Plate: 1}}
	got := anchored(z)
	if !slices.Equal(got, want) {
		t.Error(got)
	}
	got[0] = api.Fix{}
	if behind[0] != want[0] || behind[1] != (api.Fix{Plate: 3, East: 7, North: 8}) {
		t.Error(behind)
	}
}

// The spans that are told are new each time, and what they start from stays.
func TestReachIsNew(t *testing.T) {
	z := api.Zone{Plates: 2, Overlaps: []api.Overlap{{First: 0, Second: 1, East: 5}}}
	east := reachAlong(z, eastward{})
	want := []api.Span{only(0), around(5, 3)}
	for range 3 {
		got, ok := east(3, 1)
		if !ok || !slices.Equal(got, want) {
			t.Error(got, ok)
		}
		clear(got)
		got, ok = east(3, 0)
		if !ok || !slices.Equal(got, []api.Span{only(0), anywhere()}) {
			t.Error(got, ok)
		}
		clear(got)
	}
	if got, ok := east(-1, 1); ok {
		t.Error(got, ok)
	}
}
