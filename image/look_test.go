package image

import (
	"slices"
	"testing"

	"zoneworks/api"
)

// P1: whatever panics inside of a function, it is an error outside, and nothing else is told (R2).
func TestAnswerRecovers(t *testing.T) {
	told, e := answer(api.Sheet{}, func(l look) (int, api.Errno) { return len(l.Spots) + 7, api.ErrRange })
	if told != 7 || e != api.ErrRange {
		t.Error("no panic:", told, e)
	}
	told, e = answer(api.Sheet{}, func(l look) (int, api.Errno) { return l.Spots[7].X.Lo, api.OK })
	if told != 0 || e != api.ErrArg {
		t.Error("a panic:", told, e)
	}
}

// The Ways of the chapter: trails come in lexicographic order, and only as long as they are asked for.
func TestTrailsInOrder(t *testing.T) {
	for n := range api.ImageSpots + 1 {
		l := look{api.Sheet{Spots: make([]api.Spot, n)}}
		all := slices.Collect(l.trails())
		if want := n * (1 + 2*max(0, n-1) + max(0, n-1)*max(0, n-2)); len(all) != want {
			t.Error(n, len(all), want)
		}
		for i, trail := range all {
			if !l.isTrail(trail) || i > 0 && slices.Compare(all[i-1][:], trail[:]) >= 0 {
				t.Error(n, i, trail)
			}
		}
	}
	l := look{api.Sheet{Spots: make([]api.Spot, 3)}}
	all := slices.Collect(l.trails())
	for stop := range all {
		var some []api.Trail
		for trail := range l.trails() {
			some = append(some, trail)
			if len(some) == stop+1 {
				break
			}
		}
		if !slices.Equal(some, all[:stop+1]) {
			t.Error(stop, some)
		}
	}
}

// Terms: ways are in order trail by trail, number by number; one that goes on comes after one that ends there.
func TestOrderOfWays(t *testing.T) {
	const no = api.NoSpot
	ways := [][]api.Trail{
		{},
		{{0, no, no}},
		{{0, no, no}, {1, no, no}},
		{{0, no, no}, {1, 2, 3}},
		{{0, no, 1}},
		{{0, 1, no}},
		{{0, 1, 2}},
		{{0, 1, 2}, {3, no, no}},
		{{0, 2, no}},
		{{1, no, no}},
	}
	for i, a := range ways {
		for j, b := range ways {
			if before(a, b) != (i < j) {
				t.Error(a, b)
			}
		}
	}
}
