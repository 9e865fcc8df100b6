package image_test

import (
	"slices"
	"testing"

	"zoneworks/api"
	"zoneworks/image"
)

// fits fails unless a trail fits, or does not, as wanted.
func fits(t *testing.T, name string, s api.Sheet, trail api.Trail, want bool) {
	t.Helper()
	got, e := image.Fits(s, trail)
	if got != want || e != api.OK {
		t.Errorf("%s: Fits of %v is %v, not %v, error %d", name, trail, got, want, e)
	}
}

// P2.1: the examples of the chapter, and others of its sheet.
func TestFits(t *testing.T) {
	for trail, want := range map[api.Trail]bool{
		{0, 1, 2}: true, {3, 4, no}: true, {5, no, no}: false, {0, 1, no}: false,
		{0, no, 2}: false, {0, no, no}: false, {0, 2, 1}: false, {1, 0, 2}: false, {2, 1, 0}: false,
		{3, no, no}: false, {3, no, 4}: false, {4, no, no}: true, {4, 3, no}: false, {0, 4, 2}: false,
	} {
		fits(t, "example", example(), trail, want)
	}
}

// P2.1: each number of each image from the least to the greatest one with which the trail of the example fits, and
// beyond both.
func TestFitsWithinBounds(t *testing.T) {
	x := func(s *api.Spot) *api.Span { return &s.X }
	y := func(s *api.Spot) *api.Span { return &s.Y }
	z := func(s *api.Spot) *api.Span { return &s.Size }
	for _, b := range []struct {
		name  string
		image int
		of    func(s *api.Spot) *api.Span
		with  api.Span
	}{
		{"X, exposure 0", 0, x, span(100, 102)},
		{"Y, exposure 0", 0, y, span(199, 202)},
		{"size, exposure 0", 0, z, span(20, 22)},
		{"X, exposure 1", 1, x, span(120, 124)},
		{"Y, exposure 1", 1, y, span(200, 202)},
		{"size, exposure 1", 1, z, span(17, 20)},
		{"X, exposure 2", 2, x, span(100, 103)},
		{"Y, exposure 2", 2, y, span(230, 234)},
		{"size, exposure 2", 2, z, span(14, 17)},
	} {
		for n := b.with.Lo - 4; n <= b.with.Hi+4; n++ {
			s := example()
			of := b.of(&s.Spots[b.image])
			*of = span(n, n)
			fits(t, b.name, s, api.Trail{0, 1, 2}, b.with.Lo <= n && n <= b.with.Hi)
			*of = span(0, n)
			fits(t, b.name+", at most", s, api.Trail{0, 1, 2}, b.with.Lo <= n)
			*of = span(n, 900)
			fits(t, b.name+", at least", s, api.Trail{0, 1, 2}, n <= b.with.Hi)
		}
	}
}

// P2.1: steps to the lesser numbers are as good.
func TestFitsStepsBack(t *testing.T) {
	s := exact(0, at(50, 60, 20), at(43, 63, 17), at(52, 58, 14))
	s.Steps = [2]api.Step{{X: span(-7, -7), Y: span(3, 3)}, {X: span(2, 2), Y: span(-2, -2)}}
	fits(t, "steps back", s, api.Trail{0, 1, 2}, true)
	s.Steps[0].X = span(-9, -8)
	fits(t, "too far back", s, api.Trail{0, 1, 2}, false)
	s.Steps[0].X = span(-6, 9)
	fits(t, "not far enough back", s, api.Trail{0, 1, 2}, false)
}

// P2.1: all images must be those of one and the same star, though each one alone could be with the first.
func TestFitsOneStar(t *testing.T) {
	first := func() api.Sheet {
		return exact(0, spot(span(100, 104), span(100, 104), span(20, 30)), spot(span(110, 112), span(100, 102), span(17, 20)), spot(span(102, 104), span(112, 114), span(17, 24)))
	}
	fits(t, "one star", first(), api.Trail{0, 1, 2}, true)
	for name, part := range map[string]func(s *api.Spot){
		"X":    func(s *api.Spot) { s.X = span(103, 104) },
		"Y":    func(s *api.Spot) { s.Y = span(113, 114) },
		"size": func(s *api.Spot) { s.Size = span(18, 24) },
	} {
		s := first()
		part(&s.Spots[2])
		fits(t, name, s, api.Trail{0, 1, 2}, false)
		s.Spots[1].X, s.Spots[1].Y, s.Spots[1].Size = span(110, 114), span(100, 104), span(17, 27)
		fits(t, name+", if only the first two are", s, api.Trail{0, 1, 2}, true)
	}
}

// P2.1: a star is seen just in the exposures in which it is large enough.
func TestFitsSeen(t *testing.T) {
	for size := range 16 {
		s := exact(0, at(100, 100, size), at(110, 100, max(0, size-3)), at(100, 110, max(0, size-6)))
		fits(t, "one image", s, api.Trail{0, no, no}, 5 <= size && size < 8)
		fits(t, "two images", s, api.Trail{0, 1, no}, 8 <= size && size < 11)
		fits(t, "three images", s, api.Trail{0, 1, 2}, 11 <= size)
		fits(t, "the second one missing", s, api.Trail{0, no, 2}, false)
		s.Steps[0], s.Steps[1] = s.Steps[1], s.Steps[0]
		s.Fades[0], s.Fades[1] = s.Fades[1], s.Fades[0]
		fits(t, "the third exposure is the longer one", s, api.Trail{0, no, 1}, 8 <= size && size < 11)

		s = exact(0, at(100, 100, size))
		s.Fades[0] = span(1, 4)
		fits(t, "perhaps seen", s, api.Trail{0, no, no}, 5 <= size && size < 9)
		s = exact(0, at(100, 100, size), spot(span(110, 110), span(100, 100), span(0, 50)))
		s.Fades[0] = span(1, 4)
		fits(t, "perhaps seen", s, api.Trail{0, 1, no}, 6 <= size && size < 11)

		s = exact(0, at(100, 100, size))
		s.Limit = 0
		fits(t, "always seen", s, api.Trail{0, no, no}, size < 3)
	}
}

// P2.1: an image smaller than the limit is not that of a star, however far sizes can be apart.
func TestFitsTooSmall(t *testing.T) {
	s := exact(0, at(100, 100, 20), spot(span(110, 110), span(100, 100), span(0, 4)))
	s.Fades = [2]api.Span{span(0, 30), span(16, 30)}
	fits(t, "the second image", s, api.Trail{0, 1, no}, false)
	s.Spots[1].Size.Hi = 5
	fits(t, "the second image, with a size of the limit", s, api.Trail{0, 1, no}, true)
	s.Spots[0].Size = span(0, 4)
	fits(t, "the first image", s, api.Trail{0, no, no}, false)
	s.Spots[0].Size = span(0, 5)
	fits(t, "the first image, with a size of the limit", s, api.Trail{0, no, no}, true)
	s = exact(0, at(100, 100, 20), spot(span(100, 100), span(110, 110), span(0, 4)))
	s.Fades = [2]api.Span{span(16, 30), span(0, 30)}
	fits(t, "the third image", s, api.Trail{0, no, 1}, false)
}

// ways is what is told of a sheet, without where its stars are.
type ways struct {
	count, needs int
	fewest       []api.Trail
	stars, flaws int
	many         api.Span
	e            api.Errno
}

// P2.2 to P2.5: how many ways there are, the one with the fewest flaws, what is open, and how many stars there are.
func TestWaysOfSheets(t *testing.T) {
	trails := func(l ...api.Trail) []api.Trail { return l }
	both := trails(api.Trail{0, 1, 2}, api.Trail{3, 4, no})
	alone := trails(api.Trail{0, no, no}, api.Trail{1, no, no})
	faint, first, second := at(500, 500, 6), at(100, 100, 8), at(110, 100, 5)
	none := func(needs int) ways { return ways{needs: needs, e: api.ErrNone} }
	for _, x := range []struct {
		name string
		s    api.Sheet
		want ways
	}{
		{"example", example(), ways{2, 1, both, 0b010111, 0b100000, span(2, 2), api.OK}},
		{"example, no flaw", example(withFlaws(0)), none(1)},
		{"example, 1 flaw", example(withFlaws(1)), ways{1, 1, both, 0b011111, 0b100000, span(2, 2), api.OK}},
		{"example, 3 flaws", example(withFlaws(3)), ways{3, 1, both, 0b000111, 0b100000, span(1, 2), api.OK}},
		{"example, 4 flaws", example(withFlaws(4)), ways{4, 1, both, 0, 0b100000, span(1, 2), api.OK}},
		{"example, all can be flaws", example(withFlaws(6)), ways{6, 1, both, 0, 0b100000, span(0, 2), api.OK}},
		{"example, more flaws than images", example(withFlaws(9)), ways{6, 1, both, 0, 0b100000, span(0, 2), api.OK}},
		{"no images", exact(0), ways{1, 0, nil, 0, 0, span(0, 0), api.OK}},
		{"no images, but flaws", exact(9), ways{1, 0, nil, 0, 0, span(0, 0), api.OK}},
		{"flaws alone", exact(2, at(1, 1, 4), at(2, 2, 20)), ways{1, 2, nil, 0, 0b11, span(0, 0), api.OK}},
		{"flaws alone, too many", exact(1, at(1, 1, 4), at(2, 2, 20)), none(2)},
		{"stars alone", exact(0, faint, faint), ways{1, 0, alone, 0b11, 0, span(2, 2), api.OK}},
		{"stars, or one a flaw", exact(1, faint, faint), ways{3, 0, alone, 0, 0, span(1, 2), api.OK}},
		{"stars, or flaws", exact(2, faint, faint), ways{4, 0, alone, 0, 0, span(0, 2), api.OK}},
		{"the second image is told first", exact(0, second, first), ways{1, 0, trails(api.Trail{1, 0, no}), 0b11, 0, span(1, 1), api.OK}},
		{"an image of two stars, no flaw", exact(0, first, first, second), none(1)},
		{"an image of two stars", exact(1, first, first, second), ways{2, 1, trails(api.Trail{0, 2, no}), 0b100, 0, span(1, 1), api.OK}},
		{"an image of two stars, or of its own", exact(2, first, first, second), ways{3, 1, trails(api.Trail{0, 2, no}), 0b100, 0, span(1, 1), api.OK}},
		{"two images of a star", exact(0, first, second, second), ways{2, 0, trails(api.Trail{0, 1, no}, api.Trail{2, no, no}), 0b111, 0, span(2, 2), api.OK}},
		{"two images of a star, told before it", exact(0, second, second, first), ways{2, 0, trails(api.Trail{0, no, no}, api.Trail{2, 1, no}), 0b111, 0, span(2, 2), api.OK}},
		{"any way: those with NoSpot come first", wide(3, 0), ways{19, 0, trails(api.Trail{0, no, no}, api.Trail{1, no, no}, api.Trail{2, no, no}), 0b111, 0, span(1, 3), api.OK}},
	} {
		var got ways
		var es [5]api.Errno
		got.count, es[0] = image.Count(x.s)
		got.needs, es[1] = image.Needs(x.s)
		got.fewest, es[2] = image.Fewest(x.s)
		got.stars, got.flaws, es[3] = image.Tell(x.s)
		got.many, es[4] = image.Stars(x.s)
		same(t, x.name, es, [5]api.Errno{api.OK, api.OK, x.want.e, x.want.e, x.want.e})
		same(t, x.name+", Count", got.count, x.want.count)
		same(t, x.name+", Needs", got.needs, x.want.needs)
		same(t, x.name+", Tell", [2]int{got.stars, got.flaws}, [2]int{x.want.stars, x.want.flaws})
		same(t, x.name+", Stars", got.many, x.want.many)
		if !slices.Equal(got.fewest, x.want.fewest) {
			t.Error(x.name, got.fewest, x.want.fewest)
		}
	}
}

// covers returns how many ways there are on a sheet of n images on which each trail fits, without flaws: the last image
// is alone, or with one of the others, or with two of them, as any of both, or of all three, in either order.
func covers(n int) int {
	counts := []int{1, 1, 1 + 4}
	for k := 3; k <= n; k++ {
		counts = append(counts, counts[k-1]+4*(k-1)*counts[k-2]+3*(k-1)*(k-2)*counts[k-3])
	}
	return counts[n]
}

// choices returns in how many ways k of n can be chosen.
func choices(n, k int) int {
	c := 1
	for i := range k {
		c = c * (n - i) / (i + 1)
	}
	return c
}

// P2.2 to P2.6, and the limits: as many images as there can be, on a sheet on which each trail fits.
func TestAllTrailsFit(t *testing.T) {
	for n := range api.ImageSpots + 1 {
		count := 0
		for flaws := range api.ImageSpots + 1 {
			s := wide(n, flaws)
			if flaws <= n {
				count += choices(n, flaws) * covers(n-flaws)
			}
			got, e := image.Count(s)
			same(t, "Count", got, count)
			same(t, "Count", e, api.OK)
			many, _ := image.Stars(s)
			same(t, "Stars", many, span((max(0, n-flaws)+2)/3, n))
			stars, flawed, _ := image.Tell(s)
			want := 0
			if flaws == 0 {
				want = 1<<n - 1
			}
			same(t, "Tell", [2]int{stars, flawed}, [2]int{want, 0})
			fewest, _ := image.Fewest(s)
			for i, trail := range fewest {
				same(t, "Fewest", trail, api.Trail{i, no, no})
			}
			same(t, "Fewest", len(fewest), n)
		}
	}
	x, y, z, e := image.Where(wide(9, 9), 8)
	same(t, "Where", place{x, y, z, e}, place{span(0, 1<<20), span(0, 1<<20), span(500, 1000), api.OK})
}

// P2.6: where stars are.
func TestWhere(t *testing.T) {
	found := func(x, y, size api.Span) place { return place{x, y, size, api.OK} }
	none := place{e: api.ErrNone}
	pair := example(func(s *api.Sheet) { s.Spots[1] = spot(span(123, 124), span(202, 202), span(18, 18)) })
	// The image 0 is that of a star with the images 1 and 2; if both can be flaws, it can be that of a faint star, too.
	star := func(flaws int) api.Sheet {
		return exact(flaws, spot(span(90, 110), span(90, 110), span(0, 20)), at(110, 100, 12), at(100, 110, 9))
	}
	// The image 0 is that of a star with the image 1, or with 2: what is not told in between is within, too.
	gap := exact(1, spot(span(90, 110), span(90, 110), span(8, 10)), at(101, 99, 5), at(119, 105, 7))
	for _, x := range []struct {
		name string
		s    api.Sheet
		spot int
		want place
	}{
		{"example, 0", example(), 0, found(span(100, 102), span(200, 201), span(20, 22))},
		{"example, 3", example(), 3, found(span(300, 301), span(50, 51), span(13, 14))},
		{"example, 4", example(), 4, found(span(320, 322), span(50, 51), span(10, 11))},
		{"example, a second image", example(), 1, none},
		{"example, a third image", example(), 2, none},
		{"example, a flaw", example(), 5, none},
		{"example, too few flaws for it", example(withFlaws(1)), 4, none},
		{"example, no way", example(withFlaws(0)), 0, none},
		{"example, a second image that tells more", pair, 0, found(span(101, 102), span(201, 201), span(20, 21))},
		{"three images", star(0), 0, found(span(100, 100), span(100, 100), span(15, 15))},
		{"three images, too few flaws", star(1), 0, found(span(100, 100), span(100, 100), span(15, 15))},
		{"three images, or one", star(2), 0, found(span(90, 110), span(90, 110), span(5, 15))},
		{"either of two images", gap, 0, found(span(91, 109), span(99, 105), span(8, 10))},
		{"either, another image", gap, 1, found(span(101, 101), span(99, 99), span(5, 5))},
	} {
		var got place
		got.x, got.y, got.size, got.e = image.Where(x.s, x.spot)
		same(t, x.name, got, x.want)
	}
}
