package screw_test

import (
	"math"
	"testing"

	"zoneworks/api"
	"zoneworks/screw"
)

// P1.1: the least and the greatest travel, on each turn with its own errors.
func TestTravel(t *testing.T) {
	long := api.Screw{Errors: make([]api.Span, api.ScrewTurns), Eye: span(-1, 2)}
	long.Errors[39] = span(-100, 100)
	shifted := api.Screw{Errors: []api.Span{span(-9, -4), span(7, 7)}, Eye: span(2, 3)}
	for _, x := range []struct {
		name    string
		s       api.Screw
		reading int
		want    api.Span
		e       api.Errno
	}{
		{"first example", screwS(), 500, span(495, 505), api.OK},
		{"second example", screwS(), 1200, span(1197, 1208), api.OK},
		{"third example", screwS(), 2504, span(2502, 2508), api.OK},
		{"fourth example", screwS(), 4000, api.Span{}, api.ErrRange},
		{"0 is on the first turn", screwS(), 0, span(-5, 5), api.OK},
		{"last of a turn", screwS(), 999, span(994, 1004), api.OK},
		{"first of a turn", screwS(), 1000, span(997, 1008), api.OK},
		{"last of all", screwS(), 3999, span(3992, 4002), api.OK},
		{"errors all to one side", shifted, 500, span(493, 499), api.OK},
		{"and to the other one", shifted, 1500, span(1509, 1510), api.OK},
		{"40 turns", long, 39_999, span(39_898, 40_101), api.OK},
		{"the 39th turn", long, 38_999, span(38_998, 39_001), api.OK},
		{"no 41st turn", long, 40_000, api.Span{}, api.ErrRange},
		{"below 0", screwS(), -1, api.Span{}, api.ErrRange},
		{"a turn below 0", screwS(), -1000, api.Span{}, api.ErrRange},
		{"least reading of all", screwS(), math.MinInt, api.Span{}, api.ErrRange},
		{"greatest reading of all", screwS(), math.MaxInt, api.Span{}, api.ErrRange},
	} {
		got, e := screw.Travel(x.s, x.reading)
		same(t, x.name, got, x.want)
		same(t, x.name, e, x.e)
	}
}

// P1.2, P1.3, P1.4: sums, places, and how far images are apart.
func TestSpans(t *testing.T) {
	const ok, doubt, clash = api.OK, api.ErrDoubt, api.ErrClash
	none := api.Span{}
	for _, x := range []struct {
		name              string
		m                 api.Measure
		a, b              int
		sum, place, apart api.Span
		es, ep, ea        api.Errno
	}{
		{"example", measureM(), 0, 1, span(2997, 3004), span(495, 502), span(706, 713), ok, ok, ok},
		{"example, the other image first", measureM(), 1, 0, span(2997, 3004), span(1201, 1208), span(-713, -706), ok, ok, ok},
		{"fifth setting", measureM(up(0, 520)), 0, 1, none, none, none, clash, clash, clash},
		{"no setting", exact(), 0, 1, span(1000, 1100), none, none, ok, doubt, doubt},
		{"one image twice", measureM(), 1, 1, span(2997, 3004), span(1201, 1208), span(0, 0), ok, ok, ok},
		{"one image twice, not set on", exact(), 3, 3, span(1000, 1100), none, span(0, 0), ok, doubt, ok},
		{"first set on alone", exact(up(0, 300)), 0, 1, span(1000, 1100), span(300, 300), none, ok, ok, doubt},
		{"second set on alone", exact(up(1, 300)), 0, 1, span(1000, 1100), none, none, ok, doubt, doubt},
		{"reversed alone: the sum tells the place", exact(back(0, 300)), 0, 1, span(1000, 1100), span(700, 800), none, ok, ok, doubt},
		{"a place below 0", off(5, up(0, 2)), 0, 0, span(1000, 1100), span(-3, 7), span(0, 0), ok, ok, ok},
		{"a place below 0, reversed", exact(back(0, 1999)), 0, 0, span(1000, 1100), span(-999, -899), span(0, 0), ok, ok, ok},
		{"both reversed: exact, though no place is", exact(back(0, 300), back(1, 250)), 0, 1, span(1000, 1100), span(700, 800), span(50, 50), ok, ok, ok},
		{"one reversed", exact(back(0, 300), up(1, 250)), 0, 1, span(1000, 1100), span(700, 800), span(-550, -450), ok, ok, ok},
		{"a third image tells the sum", exact(back(0, 300), back(1, 250), up(2, 400), back(2, 640)), 0, 1, span(1040, 1040), span(740, 740), span(50, 50), ok, ok, ok},
		{"a sum told by settings", off(2, up(0, 300), back(0, 749)), 0, 0, span(1045, 1053), span(298, 302), span(0, 0), ok, ok, ok},
		{"a sum told by its bounds, too", off(2, up(0, 300), back(0, 699)), 0, 0, span(1000, 1003), span(299, 302), span(0, 0), ok, ok, ok},
		{"the bound of the sum tells the place", off(2, up(0, 300), back(0, 697)), 0, 0, span(1000, 1001), span(301, 302), span(0, 0), ok, ok, ok},
		{"the greatest sum", exact(up(0, 300), back(0, 800)), 0, 0, span(1100, 1100), span(300, 300), span(0, 0), ok, ok, ok},
		{"a sum too great", exact(up(0, 300), back(0, 801)), 0, 0, none, none, none, clash, clash, clash},
		{"the least sum", exact(up(0, 300), back(0, 700)), 0, 0, span(1000, 1000), span(300, 300), span(0, 0), ok, ok, ok},
		{"a sum too small", exact(up(0, 300), back(0, 699)), 0, 0, none, none, none, clash, clash, clash},
		{"two settings that meet", off(2, up(0, 300), up(0, 304)), 0, 0, span(1000, 1100), span(302, 302), span(0, 0), ok, ok, ok},
		{"two settings that do not", off(2, up(0, 300), up(0, 305)), 0, 0, none, none, none, clash, clash, clash},
		{"two reversed that do not", off(2, back(0, 300), back(0, 305)), 0, 0, none, none, none, clash, clash, clash},
		{"no truth comes before doubt", exact(up(0, 300), up(0, 301)), 1, 2, none, none, none, clash, clash, clash},
		{"no truth, one image not set on twice", exact(up(0, 300), up(0, 301)), 1, 1, none, none, none, clash, clash, clash},
	} {
		got, e := screw.Sum(x.m)
		same(t, "Sum, "+x.name, got, x.sum)
		same(t, "Sum, "+x.name, e, x.es)
		got, e = screw.Place(x.m, x.a)
		same(t, "Place, "+x.name, got, x.place)
		same(t, "Place, "+x.name, e, x.ep)
		got, e = screw.Apart(x.m, x.a, x.b)
		same(t, "Apart, "+x.name, got, x.apart)
		same(t, "Apart, "+x.name, e, x.ea)
	}
}

// P1.5 to P1.8: the settings that clash, that are to be dropped, that tell nothing; the images of one position.
func TestSets(t *testing.T) {
	third := measureM()
	third.Settings = []api.Setting{up(0, 500), up(1, 1200), back(1, 1788)}
	wide := exact(up(0, 1), up(0, 2), up(0, 2), up(1, 5), up(1, 6), up(1, 6), up(2, 8), up(2, 9), up(2, 9), up(3, 1), up(3, 2), up(3, 2))
	for _, x := range []struct {
		name                    string
		m                       api.Measure
		clash, drop, idle, once int
		idleError               api.Errno
	}{
		{"example", measureM(), 0, 0, 0, 0, api.OK},
		{"fifth setting", measureM(up(0, 520)), 1 | 16, 16, 0, 0, api.ErrClash},
		{"example of Once", third, 0, 0, 0, 1, api.OK},
		{"no setting", exact(), 0, 0, 0, 0, api.OK},
		{"one setting tells something", exact(up(2, 300)), 0, 0, 0, 4, api.OK},
		{"one setting, reversed", exact(back(3, 300)), 0, 0, 0, 8, api.OK},
		{"two that are the same: each tells nothing", exact(up(0, 300), up(0, 300)), 0, 0, 3, 1, api.OK},
		{"two reversed that are the same", exact(back(1, 300), back(1, 300)), 0, 0, 3, 2, api.OK},
		{"two that clash", exact(up(0, 300), up(0, 301)), 3, 1, 0, 1, api.ErrClash},
		{"both positions of one image, against the sum", exact(up(1, 300), back(1, 900)), 3, 1, 0, 0, api.ErrClash},
		{"four that clash, by the sum of two images", exact(up(0, 300), back(0, 750), up(1, 400), back(1, 660)), 15, 1, 0, 0, api.ErrClash},
		{"four that do not: three tell the fourth", exact(up(0, 300), back(0, 750), up(1, 400), back(1, 650)), 0, 0, 15, 0, api.OK},
		{"three against two, by the sum", exact(up(0, 300), back(0, 750), up(1, 400), back(1, 660), up(2, 100), back(2, 960)), 15, 1, 0, 0, api.ErrClash},
		{"the least numbers of several", exact(up(0, 1), up(0, 2), up(0, 3), up(0, 2)), 3, 5, 0, 1, api.ErrClash},
		{"the fewest, not the least number", exact(up(0, 300), back(0, 750), up(1, 400), back(1, 660), up(3, 7), up(3, 8)), 16 | 32, 1 | 16, 0, 8, api.ErrClash},
		{"between two others", off(2, up(0, 300), up(0, 302), up(0, 301)), 0, 0, 4, 1, api.OK},
		{"as wide as another", off(2, up(0, 300), up(0, 301)), 0, 0, 0, 1, api.OK},
		{"more than the sum and the first tell", off(2, up(0, 300), back(0, 750)), 0, 0, 0, 0, api.OK},
		{"the sum tells it already", sided(back(0, 1000), up(0, 50)), 0, 0, 1, 0, api.OK},
		{"once, and both", exact(back(0, 300), up(1, 250), up(2, 7), back(2, 1040)), 0, 0, 0, 1 | 2, api.OK},
		{"12 settings", wide, 3, 1 | 8 | 64 | 512, 0, 15, api.ErrClash},
	} {
		got, e := screw.Clash(x.m)
		same(t, "Clash, "+x.name, got, x.clash)
		same(t, "Clash, "+x.name, e, api.OK)
		got, e = screw.Drop(x.m)
		same(t, "Drop, "+x.name, got, x.drop)
		same(t, "Drop, "+x.name, e, api.OK)
		got, e = screw.Idle(x.m)
		same(t, "Idle, "+x.name, got, x.idle)
		same(t, "Idle, "+x.name, e, x.idleError)
		got, e = screw.Once(x.m)
		same(t, "Once, "+x.name, got, x.once)
		same(t, "Once, "+x.name, e, api.OK)
	}
}

// sided is a measure of one image. The first turn, the eye and the sum are exact; the second turn is off by up to 100.
func sided(settings ...api.Setting) api.Measure {
	return api.Measure{Screw: api.Screw{Errors: []api.Span{{}, span(-100, 100)}}, Images: 1, Sum: span(1050, 1050), Settings: settings}
}
