package image_test

import (
	"reflect"
	"slices"
	"testing"

	"zoneworks/api"
	"zoneworks/image"
)

// A slow way, which goes through all stars and all ways: every small sheet is told by it, too.

// in returns whether a number is in a span.
func in(n int, s api.Span) bool { return s.Lo <= n && n <= s.Hi }

// somewhere returns whether a step of a span leads from a number into another span.
func somewhere(n int, step, to api.Span) bool {
	for by := step.Lo; by <= step.Hi; by++ {
		if in(n+by, to) {
			return true
		}
	}
	return false
}

// placesOf returns all places, of one direction, at which the star of a trail can be.
func placesOf(s api.Sheet, t api.Trail, of func(api.Spot) api.Span, steps [2]api.Span) []int {
	var all []int
	first := of(s.Spots[t[0]])
next:
	for n := first.Lo; n <= first.Hi; n++ {
		for k, image := range t[1:] {
			if image != no && !somewhere(n, steps[k], of(s.Spots[image])) {
				continue next
			}
		}
		all = append(all, n)
	}
	return all
}

// sizesOf returns all sizes that the star of a trail can have.
func sizesOf(s api.Sheet, t api.Trail) []int {
	var all []int
next:
	for n := s.Limit; n <= api.ImageSize; n++ {
		if !in(n, s.Spots[t[0]].Size) {
			continue
		}
		for k, image := range t[1:] {
			can := false
			for fade := s.Fades[k].Lo; fade <= s.Fades[k].Hi; fade++ {
				there := n - fade
				seen := there >= s.Limit
				can = can || image == no && !seen || image != no && seen && in(there, s.Spots[image].Size)
			}
			if !can {
				continue next
			}
		}
		all = append(all, n)
	}
	return all
}

// body is all that the star of a trail can be; a trail fits unless one of the lists is empty.
type body struct{ x, y, size []int }

func (b body) is() bool { return len(b.x) > 0 && len(b.y) > 0 && len(b.size) > 0 }

func bodyOf(s api.Sheet, t api.Trail) body {
	return body{
		placesOf(s, t, func(p api.Spot) api.Span { return p.X }, [2]api.Span{s.Steps[0].X, s.Steps[1].X}),
		placesOf(s, t, func(p api.Spot) api.Span { return p.Y }, [2]api.Span{s.Steps[0].Y, s.Steps[1].Y}),
		sizesOf(s, t),
	}
}

// bodiesOf returns what the stars of all trails that fit can be.
func bodiesOf(s api.Sheet) map[api.Trail]body {
	all := map[api.Trail]body{}
	for a := range s.Spots {
		for b := no; b < len(s.Spots); b++ {
			for c := no; c < len(s.Spots); c++ {
				t := api.Trail{a, b, c}
				if a == b || a == c || b == c && b != no {
					continue
				}
				if x := bodyOf(s, t); x.is() {
					all[t] = x
				}
			}
		}
	}
	return all
}

// covered returns the set of the images of trails.
func covered(way []api.Trail) int {
	set := 0
	for _, t := range way {
		for _, image := range t {
			if image != no {
				set |= 1 << image
			}
		}
	}
	return set
}

// waysOf returns all ways, whatever Flaws says.
func waysOf(s api.Sheet, bodies map[api.Trail]body) [][]api.Trail {
	all := [][]api.Trail{{}}
	for first := range s.Spots {
		for _, way := range slices.Clone(all) {
			for t := range bodies {
				if t[0] == first && covered(way)&covered([]api.Trail{t}) == 0 {
					all = append(all, append(slices.Clone(way), t))
				}
			}
		}
	}
	return all
}

// spanOf returns the least and the greatest number of lists.
func spanOf(lists ...[]int) api.Span {
	all := slices.Concat(lists...)
	return span(slices.Min(all), slices.Max(all))
}

// inOrder compares two ways: first by their flaws, then number by number.
func inOrder(a, b []api.Trail) int {
	if d := size(covered(b)) - size(covered(a)); d != 0 {
		return d
	}
	flat := func(way []api.Trail) []int {
		var l []int
		for _, t := range way {
			l = append(l, t[:]...)
		}
		return l
	}
	return slices.Compare(flat(a), flat(b))
}

// slowly returns what tellAll has to, found by going through all stars and all ways.
func slowly(s api.Sheet) told {
	n := len(s.Spots)
	bodies := bodiesOf(s)
	all := waysOf(s, bodies)
	slices.SortFunc(all, inOrder)
	t := told{needs: n - size(covered(all[0])), fewest: []api.Trail{}}
	all = slices.DeleteFunc(all, func(way []api.Trail) bool { return n-size(covered(way)) > s.Flaws })
	t.count = len(all)
	if t.count == 0 {
		t.errors = [5]api.Errno{api.OK, api.OK, api.ErrNone, api.ErrNone, api.ErrNone}
	} else {
		t.fewest = append(t.fewest, all[0]...)
		t.stars, t.flaws = 1<<n-1, 1<<n-1
		t.many = span(len(all[0]), len(all[0]))
	}
	for _, way := range all {
		t.stars &= covered(way)
		t.flaws &^= covered(way)
		t.many = span(min(t.many.Lo, len(way)), max(t.many.Hi, len(way)))
	}
	for i := range n {
		t.where = append(t.where, slowPlace(i, all, bodies))
	}
	return t
}

// slowPlace returns where the star is of which an image is the first one.
func slowPlace(i int, all [][]api.Trail, bodies map[api.Trail]body) place {
	var x, y, sizes []int
	for _, way := range all {
		for _, t := range way {
			if t[0] == i {
				b := bodies[t]
				x, y, sizes = append(x, b.x...), append(y, b.y...), append(sizes, b.size...)
			}
		}
	}
	if len(x) == 0 {
		return place{e: api.ErrNone}
	}
	return place{spanOf(x), spanOf(y), spanOf(sizes), api.OK}
}

// P2.2 to P2.6: all that is told is what all ways and all stars have.
func TestAgainstAllWays(t *testing.T) {
	r := random()
	none, starry, flawed := 0, 0, 0
	for i := range 4000 {
		s := small(r)
		got, want := tellAll(s), slowly(s)
		if !reflect.DeepEqual(got, want) {
			t.Fatalf("%d: %+v\n%+v, not\n%+v", i, s, got, want)
		}
		if want.count == 0 {
			none++
		}
		if want.count > 1 && want.stars != 0 {
			starry++
		}
		if want.count > 1 && want.flaws != 0 {
			flawed++
		}
	}
	if min(none, starry, flawed) < 100 {
		t.Error("too few sheets of a kind:", none, starry, flawed)
	}
}

// P2.1: a trail fits just if there is a star.
func TestFitsAgainstAllStars(t *testing.T) {
	r := random()
	var count [4]int
	for range 600 {
		s := small(r)
		bodies := bodiesOf(s)
		for a := range s.Spots {
			for b := no; b < len(s.Spots); b++ {
				for c := no; c < len(s.Spots); c++ {
					trail := api.Trail{a, b, c}
					_, want := bodies[trail]
					got, e := image.Fits(s, trail)
					if e == api.ErrRange {
						continue
					}
					if got != want || e != api.OK {
						t.Fatal(s, trail, got, want, e)
					}
					if got {
						count[size(covered([]api.Trail{trail}))]++
					}
				}
			}
		}
	}
	if slices.Min(count[1:]) < 100 {
		t.Error("too few trails of a kind:", count)
	}
}
