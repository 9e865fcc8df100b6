package plate_test

import (
	"testing"

	"zoneworks/api"
	"zoneworks/plate"
)

// gap is a plate that can have the scales 49 to 51 and 53 to 55, but not the scale 52: there the first star is 2 beyond
// the corner already, and the other one still 14.
func gap(lo, hi int) api.Plate { return scaled(lo, hi, fixed(39, 0, 0, 0), fixed(288, 0, 13, 0)) }

// byNorth is a plate of which the easts leave the scales 400 to 600, and the norths those from 500 on.
func byNorth(more ...api.Star) api.Plate {
	stars := []api.Star{fixed(0, 0, 0, 0), known(at(1000, 1000), 400, 600, 500, 900)}
	return scaled(1, 1000, append(stars, more...)...)
}

// pairs is a plate of which two stars leave the scales 600 to 700, by their easts, and two others those from 300 to 500,
// by their norths.
func pairs() api.Plate {
	return scaled(1, 1000, known(at(0, 0), 0, 0, -100, 100), known(at(1000, 0), 600, 700, -100, 100), known(at(0, 0), -999, 999, 0, 0), known(at(0, 1000), -999, 999, 300, 500))
}

// P4.1: what scales there can be.
func TestScale(t *testing.T) {
	const far = 1 << 20
	for _, x := range []struct {
		name string
		p    api.Plate
		want api.Span
		e    api.Errno
	}{
		{"example", plateP(), span(599, 601), api.OK},
		{"example Q", plateQ(), api.Span{}, api.ErrClash},
		{"no star", scaled(3, 70), span(3, 70), api.OK},
		{"all scales", scaled(1, 1000), span(1, 1000), api.OK},
		{"no known star", scaled(3, 70, at(0, 0), at(9, 9)), span(3, 70), api.OK},
		{"one known star tells nothing", scaled(3, 70, fixed(999, 7, 5, 5)), span(3, 70), api.OK},
		{"two known stars at one place", scaled(3, 70, fixed(999, 7, 5, 5), fixed(999, 7, 5, 5)), span(3, 70), api.OK},
		{"two known stars", scaled(1, 1000, fixed(0, 0, 0, 0), fixed(1000, 0, 500, 0)), span(500, 500), api.OK},
		{"two known stars, by their norths", scaled(1, 1000, fixed(0, 0, 0, 0), fixed(0, 1000, 0, 500)), span(500, 500), api.OK},
		{"the other order", scaled(1, 1000, fixed(0, 1000, 0, 500), fixed(0, 0, 0, 0)), span(500, 500), api.OK},
		{"below 0", scaled(1, 1000, fixed(0, 0, -900, -800), fixed(1000, 0, -400, -800)), span(500, 500), api.OK},
		{"rounded down", scaled(1, 1000, fixed(0, 0, 0, 0), fixed(100, 0, 50, 0)), span(500, 509), api.OK},
		{"both rounded down", scaled(1, 1000, fixed(999, 0, 0, 0), fixed(1999, 0, 1, 0)), span(1, 1), api.OK},
		{"one of two is not known", scaled(1, 1000, fixed(0, 0, 0, 0), at(1000, 0)), span(1, 1000), api.OK},
		{"the first of two is not known", scaled(1, 1000, at(0, 0), fixed(1000, 0, 500, 0), fixed(3000, 0, 1500, 0)), span(500, 500), api.OK},
		{"wide places on the plate", scaled(1, 1000, fixed(0, 0, 0, 0), known(star(1000, 2000, 0, 0), 500, 500, 0, 0)), span(250, 500), api.OK},
		{"wide places in the sky", scaled(1, 1000, known(at(0, 0), 0, 10, 0, 0), known(at(1000, 0), 500, 520, 0, 0)), span(490, 520), api.OK},
		{"Scale is narrower", scaled(495, 515, known(at(0, 0), 0, 10, 0, 0), known(at(1000, 0), 500, 520, 0, 0)), span(495, 515), api.OK},
		{"easts and norths", byNorth(), span(500, 600), api.OK},
		{"easts and norths contradict", pairs(), api.Span{}, api.ErrClash},
		{"a gap", gap(46, 73), span(49, 55), api.OK},
		{"up to a gap", gap(46, 52), span(49, 51), api.OK},
		{"from a gap on", gap(52, 73), span(53, 55), api.OK},
		{"a gap alone", gap(52, 52), api.Span{}, api.ErrClash},
		{"the least scale", scaled(1, 1000, fixed(0, 0, 0, 0), fixed(1<<15, 0, 32, 0)), span(1, 1), api.OK},
		{"the greatest scale", scaled(1, 1000, fixed(0, 0, 0, 0), fixed(1<<15, 0, 1<<15, 0)), span(1000, 1000), api.OK},
		{"more than the greatest scale", scaled(1, 1000, fixed(0, 0, 0, 0), fixed(1<<15, 0, 1<<15+1, 0)), api.Span{}, api.ErrClash},
		{"less than the least scale", scaled(1, 1000, fixed(0, 0, 0, 0), fixed(1000, 0, 0, 0)), api.Span{}, api.ErrClash},
		{"all of the sky", scaled(1, 1000, known(star(0, 1<<15, 0, 1<<15), -far, far, -far, far), known(star(0, 1<<15, 0, 1<<15), -far, far, -far, far)), span(1, 1000), api.OK},
		{"both ends of the sky", scaled(1, 1000, fixed(0, 0, -far, -far), fixed(1<<15, 0, far, far)), api.Span{}, api.ErrClash},
	} {
		got, e := plate.Scale(x.p)
		same(t, x.name, got, x.want)
		same(t, x.name, e, x.e)
	}
}

// P4.2: where the corner can be.
func TestZero(t *testing.T) {
	const far = 1 << 20
	for _, x := range []struct {
		name string
		p    api.Plate
		want both
		e    api.Errno
	}{
		{"example", plateP(), both{span(4998, 5003), span(5999, 6003)}, api.OK},
		{"example Q", plateQ(), both{}, api.ErrClash},
		{"no star", plain(), both{}, api.ErrDoubt},
		{"no known star", plain(at(5, 5), at(6, 6)), both{}, api.ErrDoubt},
		{"one known star", plain(fixed(5, 7, 100, -50)), both{only(95), only(-57)}, api.OK},
		{"one that is not known, and one that is", plain(at(0, 0), fixed(5, 7, 100, -50)), both{only(95), only(-57)}, api.OK},
		{"a star at the corner", plain(fixed(0, 0, 3, 4)), both{only(3), only(4)}, api.OK},
		{"wide places on the plate", plain(known(star(5, 9, 7, 7), 100, 100, 0, 0)), both{span(91, 95), only(-7)}, api.OK},
		{"wide places in the sky", plain(known(at(5, 7), 100, 102, 0, 3)), both{span(95, 97), span(-7, -4)}, api.OK},
		{"two stars", plain(known(at(5, 7), 100, 102, 0, 3), known(at(15, 7), 108, 111, 2, 9)), both{span(95, 96), span(-5, -4)}, api.OK},
		{"several scales", scaled(400, 600, fixed(1000, 0, 0, 0)), both{span(-600, -400), only(0)}, api.OK},
		{"rounded down", scaled(999, 999, fixed(1, 1001, 0, 0)), both{only(0), only(-999)}, api.OK},
		{"easts and norths", byNorth(), both{only(0), only(0)}, api.OK},
		{"norths narrow the east by the scale", byNorth(known(at(2000, 0), 1200, 1200, -9, 9)), both{only(0), only(0)}, api.OK},
		{"norths tell the scale", scaled(1, 1000, known(at(1000, 0), 7, 7, 0, 0), known(at(1000, 1000), 0, 9, 300, 305)), both{span(-298, -293), only(0)}, api.OK},
		{"a gap", gap(46, 73), both{span(-2, -1), only(0)}, api.OK},
		{"up to a gap", gap(46, 52), both{only(-1), only(0)}, api.OK},
		{"from a gap on", gap(52, 73), both{only(-2), only(0)}, api.OK},
		{"farther than the sky", plain(fixed(1<<15, 1<<15, -far, -far)), both{only(-far - 1<<15), only(-far - 1<<15)}, api.OK},
		{"all of the sky", plain(known(star(0, 1<<15, 0, 0), -far, far, far, far)), both{span(-far-1<<15, far), only(far)}, api.OK},
	} {
		east, north, e := plate.Zero(x.p)
		same(t, x.name, both{east, north}, x.want)
		same(t, x.name, e, x.e)
	}
}

// P4.3: where stars are.
func TestStar(t *testing.T) {
	const far = 1 << 20
	for _, x := range []struct {
		name string
		p    api.Plate
		star int
		want both
		e    api.Errno
	}{
		{"example", plateP(), 2, both{span(6200, 6201), span(6900, 6902)}, api.OK},
		{"example, a known star", plateP(), 0, both{span(5600, 5602), span(7200, 7203)}, api.OK},
		{"example, the other known star", plateP(), 1, both{span(6800, 6801), span(6300, 6302)}, api.OK},
		{"example Q", plateQ(), 2, both{}, api.ErrClash},
		{"no known star", plain(at(5, 5)), 0, both{}, api.ErrDoubt},
		{"the known one", plain(fixed(5, 7, 100, -50)), 0, both{only(100), only(-50)}, api.OK},
		{"another one", plain(fixed(5, 7, 100, -50), star(8, 10, 3, 4)), 1, both{span(103, 105), span(-54, -53)}, api.OK},
		{"wide places in the sky", plain(known(at(5, 7), 100, 102, -50, -50), star(8, 10, 3, 4)), 1, both{span(103, 107), span(-54, -53)}, api.OK},
		{"a known one is no farther than it is said", plain(known(star(0, 50, 0, 0), 100, 102, 0, 0)), 0, both{span(100, 102), only(0)}, api.OK},
		{"a known one is narrowed by another one", plain(fixed(0, 0, 100, 100), known(star(5, 9, 3, 3), 0, 107, 0, 999)), 1, both{span(105, 107), only(103)}, api.OK},
		{"a known one, from below", plain(fixed(0, 0, 100, 100), known(star(5, 9, 3, 3), 107, 999, 0, 999)), 1, both{span(107, 109), only(103)}, api.OK},
		{"several scales", scaled(499, 500, fixed(1000, 0, 500, 0), at(3000, 999)), 1, both{span(1498, 1500), span(498, 499)}, api.OK},
		{"scales and places go together", scaled(400, 600, fixed(1000, 0, 0, 0), at(1000, 2000)), 1, both{only(0), span(800, 1200)}, api.OK},
		{"rounded down, each by itself", scaled(500, 500, fixed(1, 1, 0, 0), at(2, 3)), 1, both{only(1), only(1)}, api.OK},
		{"the norths tell the scale", byNorth(at(2000, 0)), 2, both{span(1000, 1200), only(0)}, api.OK},
		{"a gap", gap(46, 73), 1, both{only(13), only(0)}, api.OK},
		{"the end of the plate", plain(fixed(0, 0, far, -far), at(1<<15, 1<<15)), 1, both{only(far + 1<<15), only(1<<15 - far)}, api.OK},
	} {
		east, north, e := plate.Star(x.p, x.star)
		same(t, x.name, both{east, north}, x.want)
		same(t, x.name, e, x.e)
	}
}

// P4.4: how far apart stars are.
func TestApart(t *testing.T) {
	wide := known(star(0, 10, 0, 0), 100, 101, 0, 0)
	for _, x := range []struct {
		name string
		p    api.Plate
		a, b int
		want both
		e    api.Errno
	}{
		{"example", plateP(), 0, 2, both{span(599, 600), span(-301, -300)}, api.OK},
		{"example, the other way round", plateP(), 2, 0, both{span(-600, -599), span(300, 301)}, api.OK},
		{"example Q", plateQ(), 0, 1, both{}, api.ErrClash},
		{"one star twice", plateP(), 2, 2, both{}, api.OK},
		{"one wide star twice", plain(star(0, 9, 0, 9)), 0, 0, both{}, api.OK},
		{"one star twice, no truth", plateQ(), 2, 2, both{}, api.ErrClash},
		{"two stars at one place", plain(star(5, 8, 2, 2), star(5, 8, 2, 2)), 0, 1, both{span(-3, 3), only(0)}, api.OK},
		{"no known star", plain(star(5, 8, 0, 0), star(10, 11, 4, 6)), 0, 1, both{span(2, 6), span(4, 6)}, api.OK},
		{"no known star, several scales", scaled(100, 200, at(1000, 500), star(2000, 2010, 1000, 1000)), 0, 1, both{span(100, 202), span(50, 100)}, api.OK},
		{"each rounded down by itself", scaled(500, 500, at(1, 1), at(2, 3)), 0, 1, both{only(1), only(1)}, api.OK},
		{"one is known", plain(wide, star(20, 30, 0, 0)), 0, 1, both{span(10, 30), only(0)}, api.OK},
		{"the other one is known", plain(wide, star(20, 30, 0, 0)), 1, 0, both{span(-30, -10), only(0)}, api.OK},
		{"both are known", plain(wide, known(star(20, 30, 0, 0), 110, 112, 0, 0)), 0, 1, both{span(10, 12), only(0)}, api.OK},
		{"both are known, and by the sky alone", plain(known(star(0, 10, 0, 0), 100, 104, 0, 0), known(star(10, 30, 0, 0), 110, 118, 0, 0)), 0, 1, both{span(6, 18), only(0)}, api.OK},
		{"both are known, and a third one", plain(known(star(0, 10, 0, 0), 100, 104, 0, 0), known(star(10, 30, 0, 0), 110, 118, 0, 0), fixed(0, 0, 90, 0)), 0, 1, both{span(10, 18), only(0)}, api.OK},
		{"known stars are not apart as they are said to be alone", plain(known(at(0, 0), 0, 9, 0, 0), known(at(10, 0), 10, 19, 0, 0)), 0, 1, both{only(10), only(0)}, api.OK},
		{"the corner and what is said of one", plain(known(star(0, 9, 0, 0), 5, 5, 0, 0), star(0, 9, 0, 0), fixed(0, 0, 0, 0)), 0, 1, both{span(-5, 4), only(0)}, api.OK},
		{"a third star tells the scale", scaled(1, 1000, fixed(0, 0, 0, 0), fixed(1000, 0, 300, 0), at(2000, 2000), at(0, 0)), 3, 2, both{only(600), only(600)}, api.OK},
		{"the norths tell the scale", byNorth(at(2000, 0)), 0, 2, both{span(1000, 1200), only(0)}, api.OK},
		{"a gap", gap(46, 73), 0, 1, both{only(13), only(0)}, api.OK},
		{"both ends of the plate", scaled(1, 1000, at(0, 1<<15), at(1<<15, 0)), 0, 1, both{span(32, 1<<15), span(-1<<15, -32)}, api.OK},
	} {
		east, north, e := plate.Apart(x.p, x.a, x.b)
		same(t, x.name, both{east, north}, x.want)
		same(t, x.name, e, x.e)
	}
}

// P4.5: where on the plate a place of the sky is.
func TestFind(t *testing.T) {
	const far, end = 1 << 20, 1 << 15
	one := plain(known(at(5, 7), 100, 102, -50, -50))
	half := scaled(499, 500, fixed(1000, 0, 500, 0))
	least := scaled(1, 1, fixed(0, 0, 0, 0))
	corners := plain(fixed(0, 0, -end, far))
	for _, x := range []struct {
		name        string
		p           api.Plate
		east, north int
		want        both
		e           api.Errno
	}{
		{"example", plateP(), 6200, 6900, both{span(1999, 2001), span(1496, 1501)}, api.OK},
		{"example Q", plateQ(), 6200, 6900, both{}, api.ErrClash},
		{"no known star", plain(at(1, 1)), 1, 1, both{}, api.ErrDoubt},
		{"no star", plain(), far, far, both{}, api.ErrDoubt},
		{"one known star", one, 200, -50, both{span(103, 105), only(7)}, api.OK},
		{"the known star", one, 101, -50, both{span(4, 6), only(7)}, api.OK},
		{"the corner", one, 95, -57, both{only(0), only(0)}, api.OK},
		{"1 beyond the corner", one, 96, -56, both{span(0, 1), only(1)}, api.OK},
		{"west of the corner", one, 94, -50, both{}, api.ErrNone},
		{"south of the corner", one, 100, -58, both{}, api.ErrNone},
		{"outside along both directions", one, 94, -58, both{}, api.ErrNone},
		{"the end of the plate", one, 97 + end, -57 + end, both{only(end), only(end)}, api.OK},
		{"not quite the end of the plate", one, 96 + end, -57, both{span(end-1, end), only(0)}, api.OK},
		{"east of the plate", one, 98 + end, -57, both{}, api.ErrNone},
		{"north of the plate", one, 100, -56 + end, both{}, api.ErrNone},
		{"several scales", half, 1500, 0, both{span(3000, 3006), span(0, 2)}, api.OK},
		{"beyond the end with one scale alone", half, 16384, 0, both{only(end), span(0, 2)}, api.OK},
		{"beyond the end with both scales", half, 16385, 0, both{}, api.ErrNone},
		{"the least scale", least, 0, 31, both{span(0, 999), span(31000, 31999)}, api.OK},
		{"the least scale, the end of the plate", least, 32, 1, both{span(32000, end), span(1000, 1999)}, api.OK},
		{"the least scale, below the corner", least, -1, 0, both{}, api.ErrNone},
		{"the least scale, beyond the plate", least, 33, 0, both{}, api.ErrNone},
		{"the end of the sky", corners, 0, far, both{only(end), only(0)}, api.OK},
		{"the end of the sky, and of the plate", plain(fixed(0, 0, far-end, -far)), far, -far, both{only(end), only(0)}, api.OK},
		{"the other end of the sky", plain(fixed(0, 0, -far, 0)), -far, 9, both{only(0), only(9)}, api.OK},
		{"far from the plate", plateP(), far, -far, both{}, api.ErrNone},
		{"far from the plate, the other way", plateP(), -far, far, both{}, api.ErrNone},
		{"the norths tell the scale", byNorth(), 1000, 0, both{span(1667, 2001), span(0, 1)}, api.OK},
		{"X and Y can be of different truths", scaled(1, 1000, known(at(1000, 0), 400, 600, 0, 0), fixed(0, 0, 0, 0)), 300, 300, both{span(500, 752), span(500, 752)}, api.OK},
		{"a gap", gap(46, 73), 0, 0, both{span(20, 56), span(0, 20)}, api.OK},
	} {
		a, b, e := plate.Find(x.p, x.east, x.north)
		same(t, x.name, both{a, b}, x.want)
		same(t, x.name, e, x.e)
	}
}

// east is an exact star along the north, and is known along the east.
func east(x, lo, hi int) api.Star { return known(at(x, 0), lo, hi, 0, 0) }

// apart is a plate of n stars at one place of which no two can be right.
func apart(n int) api.Plate {
	p := scaled(1, 1000)
	for i := range n {
		p.Stars = append(p.Stars, fixed(7, 7, i, 0))
	}
	return p
}

// P4.6 and P4.7: what clashes, and what must be wrong.
func TestClashAndDrop(t *testing.T) {
	for _, x := range []struct {
		name        string
		p           api.Plate
		clash, drop int
	}{
		{"example", plateP(), 0, 0},
		{"example Q", plateQ(), 7, 1},
		{"no star", plain(), 0, 0},
		{"no known star", plain(at(0, 0), at(0, 0)), 0, 0},
		{"one known star", scaled(1, 1, fixed(1<<15, 0, 1<<20, -1<<20)), 0, 0},
		{"two that agree", plain(fixed(0, 0, 0, 0), fixed(5, 0, 5, 0)), 0, 0},
		{"two that do not", plain(fixed(0, 0, 0, 0), fixed(5, 0, 6, 0)), 3, 1},
		{"two that do not, along the other direction", plain(fixed(0, 0, 0, 0), fixed(5, 0, 5, 1)), 3, 1},
		{"two that just agree", plain(east(0, 0, 3), east(5, 8, 9)), 0, 0},
		{"two that just do not", plain(east(0, 0, 3), east(5, 9, 9)), 3, 1},
		{"two that can both stand elsewhere", plain(known(star(0, 3, 0, 0), 0, 0, 0, 0), known(star(5, 7, 0, 0), 8, 8, 0, 0)), 3, 1},
		{"a gap", gap(46, 73), 0, 0},
		{"a gap alone", gap(52, 52), 3, 1},
		{"stars that are not known are none of them", plain(at(0, 0), fixed(0, 0, 0, 0), at(9, 9), fixed(5, 0, 6, 0)), 10, 2},
		{"one of three is wrong", plain(fixed(0, 0, 0, 0), fixed(5, 0, 5, 0), fixed(9, 0, 8, 0)), 5, 4},
		{"the first of three is wrong", plain(fixed(0, 0, 1, 0), fixed(5, 0, 5, 0), fixed(9, 0, 9, 0)), 3, 1},
		{"the one in the middle is wrong", plain(fixed(0, 0, 0, 0), fixed(5, 0, 6, 0), fixed(9, 0, 9, 0)), 3, 2},
		{"three clash, and no two of them", scaled(1, 1000, fixed(0, 0, 0, 0), fixed(1000, 0, 500, 0), fixed(2000, 0, 900, 0)), 7, 1},
		{"the fewest, not the least number", scaled(1, 1000, fixed(0, 0, 0, 0), fixed(1000, 0, 500, 0), fixed(2000, 0, 900, 0), fixed(2000, 0, 902, 0)), 12, 5},
		{"of several the least number", plain(fixed(0, 0, 0, 0), fixed(0, 0, 1, 0), fixed(0, 0, 1, 0), fixed(0, 0, 0, 0)), 3, 6},
		{"two pairs, each of which can be right alone", pairs(), 15, 1},
		{"two pairs that contradict each other", plain(fixed(0, 0, 0, 0), fixed(0, 0, 0, 0), fixed(0, 0, 5, 0), fixed(0, 0, 5, 0)), 5, 3},
		{"two contradictions, which have nothing to do with each other", plain(known(at(0, 0), 0, 0, -99, 99), known(at(0, 0), 1, 1, -99, 99), known(at(0, 0), -99, 99, 0, 0), known(at(0, 0), -99, 99, 1, 1)), 3, 5},
		{"9 of 10 must be wrong", apart(10), 3, 511},
		{"the last two of 10", plain(append(make([]api.Star, 8), fixed(0, 0, 0, 0), fixed(0, 0, 1, 0))...), 768, 256},
	} {
		got, e := plate.Clash(x.p)
		same(t, "Clash, "+x.name, got, x.clash)
		same(t, "Clash, "+x.name, e, api.OK)
		got, e = plate.Drop(x.p)
		same(t, "Drop, "+x.name, got, x.drop)
		same(t, "Drop, "+x.name, e, api.OK)
	}
}

// P4.8: of which star the place is known least exactly.
func TestPoor(t *testing.T) {
	exact := fixed(0, 0, 0, 0)
	for _, x := range []struct {
		name       string
		p          api.Plate
		star, wide int
		e          api.Errno
	}{
		{"example", plateP(), 0, 5, api.OK},
		{"example Q", plateQ(), 0, 0, api.ErrClash},
		{"no star", plain(), 0, 0, api.ErrDoubt},
		{"no known star", plain(star(0, 9, 0, 9)), 0, 0, api.ErrDoubt},
		{"one exact star", plain(exact), 0, 0, api.OK},
		{"all are exact", plain(exact, fixed(1, 1, 1, 1), at(2, 2)), 0, 0, api.OK},
		{"the east of the second one", plain(exact, star(5, 8, 0, 0), at(7, 7)), 1, 3, api.OK},
		{"the north of the third one", plain(exact, star(5, 8, 0, 0), star(7, 7, 1, 5)), 2, 4, api.OK},
		{"both directions together", plain(exact, star(5, 8, 0, 0), star(0, 2, 0, 2)), 2, 4, api.OK},
		{"the first of several", plain(exact, star(5, 8, 0, 0), star(0, 0, 6, 9), star(1, 3, 7, 8)), 1, 3, api.OK},
		{"the first of several, and one after them", plain(exact, star(5, 8, 0, 0), star(0, 0, 6, 9), star(1, 9, 7, 8)), 3, 9, api.OK},
		{"the known one", plain(known(at(0, 0), 0, 4, 0, 4), star(5, 5, 0, 0)), 0, 8, api.OK},
		{"one that is not known is farther off", plain(known(at(0, 0), 0, 4, 0, 4), star(5, 6, 0, 0)), 1, 9, api.OK},
		{"the star farthest from the known one, by the scale", scaled(400, 500, fixed(1000, 0, 0, 0), at(0, 0), at(1900, 0), at(2500, 0)), 3, 150, api.OK},
	} {
		got, wide, e := plate.Poor(x.p)
		same(t, x.name, got, x.star)
		same(t, x.name, wide, x.wide)
		same(t, x.name, e, x.e)
	}
}
