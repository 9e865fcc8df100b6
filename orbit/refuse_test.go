package orbit

import (
	"cmp"
	"slices"
	"testing"

	"zoneworks/api"
)

// P1: whatever panics inside of a function, it is an error outside, and nothing else is told (R2).
func TestAnswerRecovers(t *testing.T) {
	for _, x := range []struct {
		name string
		ask  func() int
		want int
		e    api.Errno
	}{
		{"no panic", func() int { return 7 }, 7, api.OK},
		{"a refusal", func() int { insist(false, api.ErrClash); return 7 }, 0, api.ErrClash},
		{"no refusal", func() int { insist(true, api.ErrClash); return 7 }, 7, api.OK},
		{"another panic", func() int { panic("no error") }, 0, api.ErrArg},
	} {
		if got, e := answer(x.ask); got != x.want || e != x.e {
			t.Error(x.name, got, e)
		}
	}
}

// The images of a set come in order, and only as long as they are asked for.
func TestImagesOfSet(t *testing.T) {
	for range body(0).images {
		t.Error("no image is none")
	}
	b := only(1) | only(4) | only(7)
	all := []int{}
	for image := range b.images {
		all = append(all, image)
	}
	if !slices.Equal(all, []int{1, 4, 7}) || b.first() != 1 {
		t.Error(all)
	}
	for image := range b.images {
		if image == 4 {
			break
		}
		if image != 1 {
			t.Error(image)
		}
	}
	if b.isStray() || !only(7).isStray() || !only(4).isIn(b) || only(5).isIn(b) || !b.isIn(b) || (b | 1).isIn(b) {
		t.Error("isStray, isIn")
	}
}

// open is a search of so many images a night, all of which can be one body if they are not of the same night.
func open(strays int, images ...int) sky {
	s := api.Search{Strays: strays}
	for day, n := range images {
		s.Nights = append(s.Nights, api.OrbitNight{Day: day, Spots: make([]api.OrbitSpot, n)})
	}
	return skyOf(lookAt(s))
}

// The Ways of the chapter: motions come in order, each once, and only as long as they are asked for.
func TestWaysInOrder(t *testing.T) {
	spot := func(lo, hi int) api.OrbitSpot { return api.OrbitSpot{East: api.Span{Lo: lo, Hi: hi}} }
	l := lookAt(api.Search{Speed: api.Span{Lo: -2, Hi: 9}, Nights: []api.OrbitNight{{Day: 1, Spots: []api.OrbitSpot{spot(0, 1)}}, {Day: 3, Spots: []api.OrbitSpot{spot(7, 9)}}}})
	east := directions()[0]
	want := []way{{3, api.Span{Lo: -2, Hi: -2}}, {4, api.Span{Lo: -4, Hi: -3}}}
	if all := slices.Collect(l.ways(east, 3)); !slices.Equal(all, want) {
		t.Error(all)
	}
	for w := range l.ways(east, 3) {
		if w != want[0] {
			t.Error(w)
		}
		break
	}
	if all := slices.Collect(l.ways(east, 2)); len(all) != 12 || all[0].motion != -2 || all[11].motion != 9 {
		t.Error(all)
	}
	if got := want[1].motions(); got != (api.Span{Lo: 4, Hi: 4}) {
		t.Error(got)
	}
	if got := want[1].placesOn(3); got != (api.Span{Lo: 8, Hi: 9}) {
		t.Error(got)
	}
}

// The Ways of the chapter: all bodies are kept, by their least image, in order.
func TestBodiesOfSky(t *testing.T) {
	k := open(0, 1, 2, 1)
	for n, want := range [][]body{{1, 3, 5, 9, 11, 13}, {2, 10}, {4, 12}, {8}} {
		if !slices.Equal(k.bodies[n], want) {
			t.Error(n, k.bodies[n])
		}
	}
	if len(k.bodies) != 4 || len(open(0).bodies) != 0 {
		t.Error(k.bodies)
	}
}

// The Ways of the chapter: joinings come in lexicographic order, each once, and each image is in just one body.
func TestJoiningsInOrder(t *testing.T) {
	for _, x := range []struct {
		strays int
		images []int
		count  int
	}{
		{0, nil, 1}, {0, []int{1}, 0}, {1, []int{1}, 1}, {8, []int{1, 1, 1}, 5}, {1, []int{1, 1, 1}, 4}, {8, []int{2, 2}, 7}, {0, []int{2, 2, 2}, 12}, {8, []int{2, 2, 2, 2}, 1657},
	} {
		var all []joining
		open(x.strays, x.images...).joinings(func(j joining) { all = append(all, slices.Clone(j)) })
		if len(all) != x.count {
			t.Error(x, len(all))
		}
		for n, j := range all {
			if n > 0 && slices.Compare(all[n-1], j) >= 0 {
				t.Error(all[n-1], j)
			}
			var seen body
			for k, b := range j {
				if seen&b != 0 || k > 0 && b.first() <= j[k-1].first() {
					t.Error(j)
				}
				seen |= b
			}
		}
	}
}

// A joining that is kept is copied: the next ones do not change it.
func TestJoiningsAreCopied(t *testing.T) {
	var first, second simplest
	j := joining{3, 4}
	first.take(j)
	second.take(joining{1, 2, 4})
	second.take(j)
	var all sure
	all.take(j)
	j[0], j[1] = 7, 8
	for _, kept := range []joining{first.bodies, second.bodies, all.bodies} {
		if !slices.Equal(kept, joining{3, 4}) {
			t.Error(kept)
		}
	}
}

// The Ways of the chapter: the first of several, in an order; and which joining is simpler, whatever their order is.
func TestLeast(t *testing.T) {
	type two struct{ n, m int }
	order := func(a, b two) int { return cmp.Compare(a.n, b.n) }
	for _, x := range []struct {
		several []two
		want    two
	}{
		{[]two{{5, 0}}, two{5, 0}},
		{[]two{{5, 0}, {3, 1}, {4, 2}}, two{3, 1}},
		{[]two{{3, 0}, {3, 1}, {2, 2}, {2, 3}}, two{2, 2}},
	} {
		if got := least(order, x.several...); got != x.want {
			t.Error(x.several, got)
		}
	}
	order2 := []joining{nil, {3}, {9}, {1, 6}, {3, 4}, {5, 2}, {1, 2, 4}}
	for n, a := range order2 {
		for m, b := range order2 {
			if got := bySimplicity(a, b); got != cmp.Compare(n, m) {
				t.Error(a, b, got)
			}
		}
	}
	var s simplest
	for n := range order2 {
		s.take(order2[len(order2)-1-n])
		if !slices.Equal(s.bodies, order2[len(order2)-1-n]) {
			t.Error(s.bodies)
		}
	}
	if s.taken() != len(order2) {
		t.Error(s.taken())
	}
}
