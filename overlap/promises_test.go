package overlap_test

import (
	"slices"
	"testing"

	"zoneworks/api"
	"zoneworks/overlap"
)

// P5.1: the greatest error of corrections, and the first overlap that has it.
func TestGreatest(t *testing.T) {
	const far, reach = 1 << 40, 1 << 30
	none := fixes([2]int{}, [2]int{}, [2]int{}, [2]int{})
	least := fixes([2]int{0, 0}, [2]int{12, -2}, [2]int{34, 1}, [2]int{39, 6})
	for _, x := range []struct {
		name          string
		z             api.Zone
		l             []api.Fix
		size, overlap int
	}{
		{"example", zoneZ(), least, 2, 0},
		{"example, none", zoneZ(), none, 36, 2},
		{"example F, though they are not allowed", zoneF(), none, 36, 2},
		{"one plate", zone(1), none[:1], 0, 0},
		{"no overlaps", zone(3), fixes([2]int{5, 5}, [2]int{6, 6}, [2]int{7, 7}), 0, 0},
		{"no errors", zone(2, over(0, 1, 5, -9), over(1, 0, -5, 9)), fixes([2]int{1, 1}, [2]int{6, -8}), 0, 0},
		{"the second one alone", zone(2, over(0, 1, 5, -9), over(0, 1, 5, -8)), fixes([2]int{1, 1}, [2]int{6, -8}), 1, 1},
		{"below 0", zone(2, over(0, 1, -7, 0)), none[:2], 7, 0},
		{"the north", zone(2, over(0, 1, 3, 8), over(0, 1, 7, 0)), none[:2], 8, 0},
		{"the north, below 0", zone(2, over(0, 1, 3, 7), over(0, 1, 0, -8)), none[:2], 8, 1},
		{"the first of several", zone(2, over(0, 1, 1, 1), over(0, 1, 0, -5), over(0, 1, 5, 0), over(1, 0, 5, 5)), none[:2], 5, 1},
		{"less the correction of Second, and that of First", zone(2, over(0, 1, 10, 20)), fixes([2]int{1, 4}, [2]int{3, 9}), 15, 0},
		{"turned round", zone(2, over(1, 0, 10, 20)), fixes([2]int{1, 4}, [2]int{3, 9}), 25, 0},
		{"as far as can be", zone(2, over(0, 1, reach, 0)), fixes([2]int{far, 0}, [2]int{-far, 0}), 2*far + reach, 0},
		{"as far as can be, the other way", zone(2, over(0, 1, 0, -reach)), fixes([2]int{0, -far}, [2]int{0, far}), 2*far + reach, 0},
	} {
		size, n, e := overlap.Greatest(x.z, x.l)
		same(t, x.name, size, x.size)
		same(t, x.name+", the overlap", n, x.overlap)
		same(t, x.name, e, api.OK)
	}
}

// P5.2: the greatest error of the best corrections.
func TestBest(t *testing.T) {
	const reach = 1 << 30
	for _, x := range []struct {
		name string
		z    api.Zone
		want int
	}{
		{"example", zoneZ(), 2},
		{"example F", zoneF(), 5},
		{"one plate", zone(1), 0},
		{"no overlaps", zone(8), 0},
		{"one overlap", zone(2, over(0, 1, 999, -999)), 0},
		{"a chain", zone(4, over(0, 1, 5, 6), over(2, 1, 7, 8), over(3, 2, 9, 10)), 0},
		{"two that agree", zone(2, over(0, 1, 5, 5), over(0, 1, 5, 5)), 0},
		{"two that agree, one turned round", zone(2, over(0, 1, 5, 5), over(1, 0, -5, -5)), 0},
		{"two that do not", zone(2, over(0, 1, 5, 0), over(0, 1, 9, 0)), 2},
		{"rounded up", zone(2, over(0, 1, 5, 0), over(0, 1, 8, 0)), 2},
		{"rounded up from less than 1", zone(2, over(0, 1, 5, 0), over(0, 1, 6, 0)), 1},
		{"the north", zone(2, over(0, 1, 5, 0), over(0, 1, 6, 9)), 5},
		{"one turned round", zone(2, over(0, 1, 5, 0), over(1, 0, 5, 0)), 5},
		{"the one in the middle does not matter", zone(2, over(0, 1, 0, 0), over(0, 1, 3, 0), over(0, 1, 8, 0)), 4},
		{"a ring", ring(3, 1, 0), 1},
		{"a ring of 3", ring(3, 4, -5), 5},
		{"a ring, one of which is off by 4", zone(3, over(0, 1, 4, 0), over(1, 2, 0, 0), over(2, 0, 0, 0)), 2},
		{"a ring of 8, off by 8 and by 9", zone(8, append(ring(7, 1, 1).Overlaps[:6], over(6, 7, 1, 1), over(7, 0, 1, 2))...), 2},
		{"a ring of 8", ring(8, 7, -6), 7},
		{"two rings, the second of which is worse", zone(6, over(0, 1, 3, 0), over(1, 2, 0, 0), over(2, 0, 0, 0), over(3, 4, 0, 6), over(4, 5, 0, 0), over(5, 3, 0, 0)), 2},
		{"one Fixed plate", fixed(zone(2, over(0, 1, 5, 5)), at(1, -9, 7)), 0},
		{"two Fixed plates", fixed(zone(2, over(0, 1, 5, 5)), at(0, 0, 0), at(1, 9, 6)), 4},
		{"two Fixed plates, the north", fixed(zone(2, over(0, 1, 5, 5)), at(0, 0, 0), at(1, 9, 9+1)), 5},
		{"two Fixed plates of a chain", fixed(zone(3, over(0, 1, 10, 0), over(1, 2, 10, 0)), at(0, 0, 0), at(2, 10, 0)), 5},
		{"rounded up over a chain", fixed(zone(4, over(0, 1, 0, 0), over(1, 2, 0, 0), over(2, 3, 0, 0)), at(3, 10, 0), at(0, 0, 0)), 4},
		{"Fixed plates that are not linked", fixed(zone(4, over(0, 1, 5, 5), over(2, 3, 6, 6)), at(0, 0, 0), at(3, 50, 50)), 0},
		{"the last two of three Fixed plates", fixed(zone(3, over(0, 1, 0, 0), over(1, 2, 0, 0)), at(0, 0, 0), at(1, 0, 0), at(2, 0, -7)), 7},
		{"as far as can be", fixed(zone(2, over(0, 1, reach, 0)), at(0, reach, 0), at(1, -reach, 0)), 3 * reach},
		{"as far as can be, the other way", fixed(zone(2, over(0, 1, 0, -reach)), at(0, 0, -reach), at(1, 0, reach)), 3 * reach},
		{"as far as can be, nothing Fixed", ring(8, reach, -reach), reach},
	} {
		got, e := overlap.Best(x.z)
		same(t, x.name, got, x.want)
		same(t, x.name, e, api.OK)
	}
}

// P5.3 and P5.4: the best corrections that are anchored: the least ones, and between which ones they are.
func TestAdjustAndRange(t *testing.T) {
	const reach = 1 << 30
	for _, x := range []struct {
		name   string
		z      api.Zone
		ranges []both
	}{
		{"example", zoneZ(), []both{{only(0), only(0)}, {only(12), span(-2, 1)}, {only(34), span(1, 4)}, {span(39, 43), span(6, 13)}}},
		{"one plate", zone(1), []both{{only(0), only(0)}}},
		{"no overlaps", zone(3), []both{{only(0), only(0)}, {only(0), only(0)}, {only(0), only(0)}}},
		{"no overlaps, one is Fixed", fixed(zone(3), at(1, 7, -8)), []both{{only(0), only(0)}, {only(7), only(-8)}, {only(0), only(0)}}},
		{"one overlap", zone(2, over(1, 0, 5, -3)), []both{{only(0), only(0)}, {only(-5), only(3)}}},
		{"one is Fixed", fixed(zone(2, over(1, 0, 5, -3)), at(1, 100, 100)), []both{{only(105), only(97)}, {only(100), only(100)}}},
		{"both are Fixed", fixed(zone(2, over(0, 1, 5, 0)), at(1, 9, 9), at(0, 0, 0)), []both{{only(0), only(0)}, {only(9), only(9)}}},
		{"two overlaps", zone(2, over(0, 1, 5, 0), over(0, 1, 9, 0)), []both{{only(0), only(0)}, {only(7), span(-2, 2)}}},
		{"rounded up", zone(2, over(0, 1, 5, 0), over(0, 1, 8, 0)), []both{{only(0), only(0)}, {span(6, 7), span(-2, 2)}}},
		{"the north is worse", zone(2, over(0, 1, 0, 5), over(0, 1, 0, 9)), []both{{only(0), only(0)}, {span(-2, 2), only(7)}}},
		{"not linked", zone(4, over(2, 3, 4, 4)), []both{{only(0), only(0)}, {only(0), only(0)}, {only(0), only(0)}, {only(4), only(4)}}},
		{"linked the other way", zone(4, over(3, 2, 4, 4), over(3, 1, 1, 2)), []both{{only(0), only(0)}, {only(0), only(0)}, {only(3), only(2)}, {only(-1), only(-2)}}},
		{"linked late", zone(4, over(2, 3, 1, 1), over(0, 1, 2, 2), over(3, 1, 4, 4)), []both{{only(0), only(0)}, {only(2), only(2)}, {only(-3), only(-3)}, {only(-2), only(-2)}}},
		{"one of two parts is Fixed", fixed(zone(4, over(0, 1, 2, 2), over(2, 3, 1, 1)), at(3, 10, 10)), []both{{only(0), only(0)}, {only(2), only(2)}, {only(9), only(9)}, {only(10), only(10)}}},
		{"an error elsewhere", zone(5, over(0, 1, 0, 0), over(0, 1, 2, 0), over(2, 3, 10, 20), over(3, 4, 1, 1)), []both{{only(0), only(0)}, {only(1), span(-1, 1)}, {only(0), only(0)}, {span(9, 11), span(19, 21)}, {span(9, 13), span(19, 23)}}},
		{"between two Fixed plates", fixed(zone(3, over(0, 1, 10, 0), over(1, 2, 10, 0)), at(0, 0, 0), at(2, 10, 0)), []both{{only(0), only(0)}, {only(5), span(-5, 5)}, {only(10), only(0)}}},
		{"a ring", ring(3, 1, 0), []both{{only(0), only(0)}, {only(0), span(-1, 1)}, {only(0), span(-1, 1)}}},
		{"a ring that is not off", ring(3, 0, 0), []both{{only(0), only(0)}, {only(0), only(0)}, {only(0), only(0)}}},
		{"a ring that is off by 4", zone(3, over(0, 1, 4, 0), over(1, 2, 0, 0), over(2, 0, 0, 0)), []both{{only(0), only(0)}, {span(2, 4), span(-2, 2)}, {span(0, 2), span(-2, 2)}}},
		{"far", zone(4, over(0, 1, reach, -reach), over(1, 2, reach, -reach), over(2, 3, reach, -reach)), []both{{only(0), only(0)}, {only(reach), only(-reach)}, {only(2 * reach), only(-2 * reach)}, {only(3 * reach), only(-3 * reach)}}},
	} {
		var least []api.Fix
		for plate, want := range x.ranges {
			east, north, e := overlap.Range(x.z, plate)
			same(t, x.name, both{east, north}, want)
			same(t, x.name, e, api.OK)
			least = append(least, at(plate, want[0].Lo, want[1].Lo))
		}
		if got, e := overlap.Adjust(x.z); !slices.Equal(got, least) || e != api.OK {
			t.Errorf("%s: %v, not %v; %v", x.name, got, least, e)
		}
	}
}

// The example of P5.3, just as the document has it.
func TestAdjustExample(t *testing.T) {
	want := fixes([2]int{0, 0}, [2]int{12, -2}, [2]int{34, 1}, [2]int{39, 6})
	if got, e := overlap.Adjust(zoneZ()); !slices.Equal(got, want) || e != api.OK {
		t.Error(got, e)
	}
}

// P5.5: the plates that have the same correction in all best ones.
func TestRigid(t *testing.T) {
	for _, x := range []struct {
		name string
		z    api.Zone
		want int
	}{
		{"example", zoneZ(), 1},
		{"example F", zoneF(), 9},
		{"one plate", zone(1), 1},
		{"no overlaps", zone(8), 255},
		{"a chain", zone(3, over(0, 1, 5, 6), over(2, 1, 7, 8)), 7},
		{"both directions are", zone(2, over(0, 1, 5, 0), over(0, 1, 9, 4)), 3},
		{"the east alone is", zone(2, over(0, 1, 5, 0), over(0, 1, 9, 0)), 1},
		{"the north alone is", zone(2, over(0, 1, 0, 5), over(0, 1, 0, 9)), 1},
		{"rounded up", zone(2, over(0, 1, 5, 5), over(0, 1, 8, 8)), 1},
		{"Fixed", fixed(zone(2, over(0, 1, 5, 5), over(0, 1, 8, 8)), at(0, 3, 3), at(1, 9, 9)), 3},
		{"the second one is Fixed", fixed(zone(2, over(0, 1, 5, 5), over(0, 1, 8, 8)), at(1, 9, 9)), 2},
		{"between two Fixed plates", fixed(zone(3, over(0, 1, 10, 0), over(1, 2, 10, 0)), at(0, 0, 0), at(2, 10, 10)), 7},
		{"not linked with what is off", zone(4, over(0, 1, 5, 5), over(0, 1, 8, 8)), 13},
	} {
		got, e := overlap.Rigid(x.z)
		same(t, x.name, got, x.want)
		same(t, x.name, e, api.OK)
	}
}

// P5.6: the fewest overlaps that prove the smallest greatest error.
func TestProof(t *testing.T) {
	for _, x := range []struct {
		name string
		z    api.Zone
		want int
	}{
		{"example", zoneZ(), 7},
		{"example F", zoneF(), 11},
		{"one plate", zone(1), 0},
		{"no error", zone(2, over(0, 1, 5, 5), over(0, 1, 5, 5)), 0},
		{"one overlap of Fixed plates", fixed(zone(2, over(0, 1, 5, 0)), at(0, 0, 0), at(1, 9, 9)), 1},
		{"the second overlap of Fixed plates", fixed(zone(2, over(0, 1, 9, 8), over(0, 1, 5, 6)), at(0, 0, 0), at(1, 9, 9)), 2},
		{"the first of two", zone(2, over(0, 1, 5, 0), over(0, 1, 8, 0), over(1, 0, -8, 0)), 3},
		{"the first and the last one", zone(2, over(0, 1, 0, 0), over(0, 1, 4, 0), over(0, 1, 8, 0)), 5},
		{"the north", zone(2, over(0, 1, 0, 9), over(0, 1, 4, 0), over(0, 1, 8, 0)), 3},
		{"rounded up, as two others are", zone(2, over(0, 1, 0, 0), over(0, 1, 3, 0), over(0, 1, 4, 0)), 3},
		{"a ring", ring(3, 1, 0), 7},
		{"a ring of 8", ring(8, 5, 5), 255},
		{"the fewest, not the least number", zone(5, append(ring(3, 1, 0).Overlaps, over(3, 4, 0, 0), over(3, 4, 1, 0))...), 24},
		{"of several the least number", zone(4, over(2, 3, 0, 0), over(0, 1, 0, 0), over(0, 1, 2, 0), over(2, 3, 2, 0)), 6},
	} {
		got, e := overlap.Proof(x.z)
		same(t, x.name, got, x.want)
		same(t, x.name, e, api.OK)
	}
}

// P5.7: what each overlap costs.
func TestCosts(t *testing.T) {
	for _, x := range []struct {
		name string
		z    api.Zone
		want []int
	}{
		{"example", zoneZ(), []int{0, 0, 0, 2}},
		{"example F", zoneF(), []int{4, 4, 5, 2}},
		{"no overlaps", zone(2), nil},
		{"one overlap", zone(2, over(0, 1, 5, 5)), []int{0}},
		{"one overlap of Fixed plates", fixed(zone(2, over(0, 1, 5, 5)), at(0, 0, 0), at(1, 0, 0)), []int{0}},
		{"three", zone(2, over(0, 1, 0, 0), over(0, 1, 4, 0), over(0, 1, 8, 0)), []int{2, 4, 2}},
		{"three, along both directions", zone(2, over(0, 1, 0, 6), over(0, 1, 4, 0), over(0, 1, 8, 0)), []int{2, 4, 3}},
		{"two that are the same", zone(2, over(0, 1, 0, 0), over(0, 1, 8, 0), over(0, 1, 8, 0)), []int{0, 4, 4}},
	} {
		got, e := overlap.Costs(x.z)
		if !slices.Equal(got, x.want) || e != api.OK {
			t.Errorf("%s: %v, not %v; %v", x.name, got, x.want, e)
		}
	}
}

// P5.8: the fewest overlaps without which no error need be greater than one wants.
func TestWithout(t *testing.T) {
	three := zone(2, over(0, 1, 0, 0), over(0, 1, 4, 0), over(0, 1, 8, 0))
	pair := fixed(zone(2, over(0, 1, 5, 0)), at(0, 0, 0), at(1, 9, 9))
	for _, x := range []struct {
		name       string
		z          api.Zone
		most, want int
	}{
		{"example", zoneZ(), 1, 1},
		{"example, as it is", zoneZ(), 2, 0},
		{"example, none", zoneZ(), 0, 1},
		{"example F", zoneF(), 4, 1},
		{"example F, as it is", zoneF(), 5, 0},
		{"example F, less", zoneF(), 3, 8},
		{"no overlaps", zone(2), 0, 0},
		{"three, as it is", three, 4, 0},
		{"three, one more than need be", three, 5, 0},
		{"three, the first one", three, 3, 1},
		{"three, the first one, just so", three, 2, 1},
		{"three, two of them", three, 1, 3},
		{"three, two of them, with no error", three, 0, 3},
		{"Fixed", pair, 8, 1},
		{"Fixed, as it is", pair, 9, 0},
		{"the fewest, not the least number", zone(2, over(0, 1, 0, 0), over(0, 1, 0, 0), over(0, 1, 9, 0)), 0, 4},
		{"the north", zone(2, over(0, 1, 0, 0), over(0, 1, 0, 9), over(0, 1, 0, 9)), 4, 1},
		{"of several the least number", ring(4, 3, 0), 2, 1},
		{"of two rings one each", zone(6, over(0, 1, 3, 0), over(1, 2, 0, 0), over(2, 0, 0, 0), over(3, 4, 0, 6), over(4, 5, 0, 0), over(5, 3, 0, 0)), 0, 9},
		{"as much as can be", zoneF(), 1 << 40, 0},
	} {
		got, e := overlap.Without(x.z, x.most)
		same(t, x.name, got, x.want)
		same(t, x.name, e, api.OK)
	}
}
