package cover

import (
	"slices"
	"testing"

	"zoneworks/api"
)

// P1: whatever panics inside of a function, it is an error outside, and nothing else is told (R2).
func TestAnswerRecovers(t *testing.T) {
	for _, x := range []struct {
		name string
		ask  func() int
		want int
		e    api.Errno
	}{
		{"no panic", func() int { return 7 }, 7, api.OK},
		{"a refusal", func() int { insist(false, api.ErrNone); return 7 }, 0, api.ErrNone},
		{"no refusal", func() int { insist(true, api.ErrNone); return 7 }, 7, api.OK},
		{"another panic", func() int { panic("no error") }, 0, api.ErrArg},
	} {
		if got, e := answer(x.ask); got != x.want || e != x.e {
			t.Error(x.name, got, e)
		}
	}
}

// The Ways of the chapter: sets of plates come by their sizes, each once, and only as long as they are asked for.
func TestPartsInOrder(t *testing.T) {
	for _, x := range []struct {
		all  set
		want []set
	}{
		{0, []set{0}}, {1, []set{0, 1}}, {4, []set{0, 4}}, {7, []set{0, 1, 2, 4, 3, 5, 6, 7}}, {13, []set{0, 1, 4, 8, 5, 9, 12, 13}},
	} {
		if got := slices.Collect(x.all.parts); !slices.Equal(got, x.want) {
			t.Error(x.all, got)
		}
	}
	if two := slices.Collect(set(13).sized(2)); !slices.Equal(two, []set{5, 9, 12}) {
		t.Error(two)
	}
	n := 0
	for part := range set(1<<12 - 1).parts {
		if n++; part == 6 {
			break
		}
		if part.size() > 2 {
			t.Fatal(part)
		}
	}
	if n != 1+12+3 || len(slices.Collect(set(1<<12-1).parts)) != 1<<12 {
		t.Error(n)
	}
	for range set(7).sized(4) {
		t.Error("no part of three plates has four")
	}
}

// Sets of plates, by bits.
func TestSets(t *testing.T) {
	s := only(0).with(only(3)).with(only(11))
	if s != 2057 || s.size() != 3 || !s.has(3) || s.has(2) || s.without(only(3)) != 2049 || s.without(only(2)) != s || s.without(s) != 0 {
		t.Error(s)
	}
	if !s.isIn(s) || !set(0).isIn(0) || !only(3).isIn(s) || only(2).isIn(s) || s.isIn(only(3)) {
		t.Error(s)
	}
}

// The Ways of the chapter: the first that is as asked, of sets or of anything, and whether there is one.
func TestFirst(t *testing.T) {
	words := slices.Values([]string{"a", "bb", "cc", ""})
	for _, x := range []struct {
		size int
		want string
		is   bool
	}{{1, "a", true}, {2, "bb", true}, {3, "", false}, {0, "", true}} {
		if got, is := first(words, func(s string) bool { return len(s) == x.size }); got != x.want || is != x.is {
			t.Error(x, got, is)
		}
	}
}

// The Ways of the chapter: what was put on a stack last goes first.
func TestStack(t *testing.T) {
	var s stack[string]
	s.push("a")
	s.push("b")
	if got := s.pop(); got != "b" || !slices.Equal(s.things, []string{"a"}) {
		t.Error(got, s)
	}
	s.push("c")
	s.push("d")
	if !slices.Equal(s.things, []string{"a", "c", "d"}) || s.pop() != "d" || s.pop() != "c" || s.pop() != "a" || len(s.things) != 0 {
		t.Error(s)
	}
}

// The Ways of the chapter: a closure counts days, each time from the beginning.
func TestCounter(t *testing.T) {
	for _, x := range []struct {
		gap  int
		want []int
	}{
		{0, []int{1, 2, 3, 4, 5}}, {1, []int{1, 1, 2, 3, 4}}, {3, []int{1, 1, 2, 2, 3}}, {4, []int{1, 1, 1, 2, 3}}, {5, []int{1, 1, 1, 2, 2}}, {9, []int{1, 1, 1, 1, 2}}, {10, []int{1, 1, 1, 1, 1}},
	} {
		count := counter(x.gap)
		for n, day := range []int{0, 0, 3, 5, 9} {
			if got := count(day); got != x.want[n] {
				t.Error(x.gap, day, got)
			}
		}
	}
}

// The Ways of the chapter: places come in their order, as long as they are asked for.
func TestPlacesInOrder(t *testing.T) {
	l := look{Field: api.Field{East: api.Span{Lo: 3, Hi: 4}, North: api.Span{Lo: 7, Hi: 9}}}
	want := []place{{3, 7}, {3, 8}, {3, 9}, {4, 7}, {4, 8}, {4, 9}}
	if got := slices.Collect(l.places); !slices.Equal(got, want) {
		t.Error(got)
	}
	n := 0
	for p := range l.places {
		if n++; p == want[3] {
			break
		}
	}
	if n != 4 {
		t.Error(n)
	}
}

// strips is a field of four places in three rows, whose places ask for four different sets of its plates.
func strips() api.Field {
	sky := func(east, north api.Span, day int) api.Sky { return api.Sky{East: east, North: north, Day: day} }
	return api.Field{
		Plates: []api.Sky{
			sky(api.Span{Lo: 0, Hi: 32}, api.Span{Lo: 1, Hi: 1}, 9), sky(api.Span{Lo: 2, Hi: 3}, api.Span{Hi: 32}, 5), sky(api.Span{Hi: 32}, api.Span{Hi: 32}, 40),
		},
		East: api.Span{Hi: 3}, North: api.Span{Hi: 2}, Days: api.Span{Hi: 39}, Times: 2, Gap: 3,
	}
}

// The Ways of the chapter: places that ask the same are asked once; the first ones of them come in their order.
func TestPlacesThatAskTheSame(t *testing.T) {
	want := []alike{
		{demand{0, 2, 3}, lot{place{0, 0}, 4}}, {demand{1, 2, 3}, lot{place{0, 1}, 2}},
		{demand{2, 2, 3}, lot{place{2, 0}, 4}}, {demand{3, 2, 3}, lot{place{2, 1}, 2}},
	}
	s := surveyOf(lookAt(strips()))
	if !slices.Equal(s.asked, want) || !slices.Equal(s.byDay, []int{1, 0}) || s.useful() != 3 {
		t.Error(s)
	}
}

// rooms tells how many places that are apart there are at most, for each set of plates.
func TestRooms(t *testing.T) {
	f := strips()
	f.East.Lo, f.North = 1, api.Span{Hi: 1}
	f.Plates[2] = api.Sky{East: api.Span{Lo: 1, Hi: 1}, North: api.Span{}, Day: 7}
	// Of the places 1, 0; 1, 1; 2, 0 and 2, 1 the plates are 2; 0; 1; and 0 and 1.
	if got := surveyOf(lookAt(f)).rooms(); !slices.Equal(got, []int{0, 1, 1, 2, 1, 2, 2, 3}) {
		t.Error(got)
	}
}
