package turn

import (
	"slices"
	"testing"

	"zoneworks/api"
)

// P1: whatever panics inside of a function, it is an error outside, and nothing else is told (R2).
func TestAnswerRecovers(t *testing.T) {
	for _, x := range []struct {
		name string
		ask  func() int
		want int
		e    api.Errno
	}{
		{"no panic", func() int { return 7 }, 7, api.OK},
		{"a refusal", func() int { insist(false, api.ErrClash); return 7 }, 0, api.ErrClash},
		{"no refusal", func() int { insist(true, api.ErrClash); return 7 }, 7, api.OK},
		{"another panic", func() int { panic("no error") }, 0, api.ErrArg},
	} {
		if got, e := answer(x.ask); got != x.want || e != x.e {
			t.Error(x.name, got, e)
		}
	}
}

// The Ways of the chapter: sets of plates come the smaller ones first, each once, and only as long as they are asked for.
func TestPartsInOrder(t *testing.T) {
	for _, x := range []struct {
		all  set
		want []set
	}{
		{0, []set{0}}, {1, []set{0, 1}}, {4, []set{0, 4}}, {7, []set{0, 1, 2, 4, 3, 5, 6, 7}}, {13, []set{0, 1, 4, 8, 5, 9, 12, 13}},
	} {
		if got := slices.Collect(x.all.parts); !slices.Equal(got, x.want) {
			t.Error(x.all, got)
		}
	}
	n := 0
	for part := range set(255).parts {
		if n++; part == 6 {
			break
		}
		if part > 6 && part.size() > 2 {
			t.Error(part)
		}
	}
	if n != 12 || len(slices.Collect(set(255).parts)) != 256 {
		t.Error(n)
	}
}

// Sets of plates, by bits.
func TestSets(t *testing.T) {
	s := only(0).with(only(3)).with(only(7))
	if s != 137 || s.size() != 3 || !s.has(3) || s.has(2) || s.without(only(3)) != 129 || s.without(only(2)) != s || s.without(s) != 0 {
		t.Error(s)
	}
}

// The Ways of the chapter: what is asked of sets, or of anything: the first that suits, and whether there is one.
func TestFirst(t *testing.T) {
	words := slices.Values([]string{"a", "bb", "cc", ""})
	for _, x := range []struct {
		size int
		want string
		is   bool
	}{{1, "a", true}, {2, "bb", true}, {3, "", false}, {0, "", true}} {
		if got, is := first(words, func(s string) bool { return len(s) == x.size }); got != x.want || is != x.is {
			t.Error(x, got, is)
		}
	}
}

// The Ways of the chapter: what is said and gaps narrow bounds, and no others; bounds that are given stay as they are.
func TestNarrow(t *testing.T) {
	start := anyDays()
	said := saying{2, api.Span{Lo: 10, Hi: 20}}.narrow(start)
	if said.days(2) != (api.Span{Lo: 10, Hi: 20}) || said.days(1) != (api.Span{Hi: api.MaxDay}) || start != anyDays() {
		t.Error(said, start)
	}
	g := gap{api.TurnGap{First: 2, Second: 5, By: api.Span{Lo: -3, Hi: 4}}}
	both := g.narrow(said)
	if both[2][5] != 4 || both[5][2] != 3 || both.days(5) != (api.Span{Hi: api.MaxDay}) {
		t.Error(both)
	}
	if after := both.chained(); after.days(5) != (api.Span{Lo: 7, Hi: 24}) || after.days(2) != said.days(2) || after.chained() != after {
		t.Error(after)
	}
	// What is known already is not widened.
	if wider := (saying{2, api.Span{Lo: 0, Hi: 99}}).narrow(said); wider != said {
		t.Error(wider)
	}
	if got, is := boundsBy([]narrowing{said2(10), said2(11)}); is || got != (bounds{}) {
		t.Error(got)
	}
	if got, is := boundsBy(nil); !is || got != anyDays() {
		t.Error(got)
	}
}

// said2 is one day that is said of the plate 2.
func said2(day int) narrowing { return saying{2, api.Span{Lo: day, Hi: day}} }

// The Ways of the chapter: plates that tell of one another go with the same one, and all others with themselves.
func TestSidesByHands(t *testing.T) {
	of, is := sidesBy([]api.TurnHand{{First: 1, Second: 2}, {First: 4, Second: 3, Same: true}, {First: 3, Second: 2}, {First: 4, Second: 1, Same: true}})
	if !is {
		t.Fatal("they can lie so")
	}
	for plate, other := range []bool{false, false, true, false, false} {
		want := side{of(1).as, of(1).other != other}
		if plate == 0 {
			want = side{as: 0}
		}
		if of(plate) != want {
			t.Error(plate, of(plate), want)
		}
	}
	if of(frame) != (side{as: frame}) || of.over(1) != api.TurnPerhaps || of.over(frame) != api.TurnNever {
		t.Error(of(frame))
	}
	if of, is := sidesBy([]api.TurnHand{{First: 1, Second: 2}, {First: 2, Second: 1, Same: true}}); is || of != nil {
		t.Error("they cannot lie so")
	}
	if s := (side{3, true}); s.turned(false) != s || s.turned(true) != (side{3, false}) {
		t.Error(s)
	}
}
