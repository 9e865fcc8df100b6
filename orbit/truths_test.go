package orbit_test

import (
	"cmp"
	"reflect"
	"slices"
	"testing"

	"zoneworks/api"
)

// A slow way, which goes through all places and motions, and all sets of sets: every small search is told by it, too.

// course is a place on the day 0, a motion, and all images that stand where they lead.
type course struct{ place, motion, images int }

// slowCourses returns all courses in one direction, if no image is farther from zero than 20, and no day later than 7.
func slowCourses(s api.Search, of func(x api.OrbitSpot) api.Span) []course {
	var all []course
	for motion := s.Speed.Lo; motion <= s.Speed.Hi; motion++ {
		for place := -60; place <= 60; place++ {
			c, image := course{place, motion, 0}, 0
			for _, night := range s.Nights {
				at := place + motion*night.Day
				for _, x := range night.Spots {
					if where := of(x); where.Lo <= at && at <= where.Hi {
						c.images |= 1 << image
					}
					image++
				}
			}
			if c.images != 0 {
				all = append(all, c)
			}
		}
	}
	return all
}

// slowSpan returns from the least to the greatest number of the courses that lead to images, and whether there is any.
func slowSpan(courses []course, images int, number func(c course) int) (api.Span, bool) {
	var numbers []int
	for _, c := range courses {
		if images&^c.images == 0 {
			numbers = append(numbers, number(c))
		}
	}
	if len(numbers) == 0 {
		return api.Span{}, false
	}
	return span(slices.Min(numbers), slices.Max(numbers)), true
}

// nights returns the number of the night of each image.
func nights(s api.Search) []int {
	var list []int
	for n, night := range s.Nights {
		for range night.Spots {
			list = append(list, n)
		}
	}
	return list
}

// isOfOneNight returns whether two images of a set are.
func isOfOneNight(s api.Search, images int) bool {
	seen := 0
	for image, night := range nights(s) {
		if has(images, image) {
			if has(seen, night) {
				return true
			}
			seen |= 1 << night
		}
	}
	return false
}

// slowJoinings returns all joinings, in lexicographic order: each image is put into each set, or into a new one.
func slowJoinings(s api.Search, fits []bool) [][]int {
	var all [][]int
	var put func(image int, sets []int)
	put = func(image int, sets []int) {
		if image < sizeOf(s) {
			for n := range sets {
				more := slices.Clone(sets)
				more[n] |= 1 << image
				put(image+1, more)
			}
			put(image+1, append(slices.Clone(sets), 1<<image))
			return
		}
		strays := 0
		for _, set := range sets {
			if !fits[set] {
				return
			}
			if size(set) == 1 {
				strays++
			}
		}
		if strays <= s.Strays {
			all = append(all, sets)
		}
	}
	put(0, []int{})
	for _, joining := range all {
		slices.SortFunc(joining, func(a, b int) int { return cmp.Compare(least(a), least(b)) })
	}
	slices.SortFunc(all, slices.Compare)
	return all
}

// slowly returns what tellAll has to, and all joinings.
func slowly(s api.Search, days ...int) (told, [][]int) {
	var x told
	east := slowCourses(s, func(x api.OrbitSpot) api.Span { return x.East })
	north := slowCourses(s, func(x api.OrbitSpot) api.Span { return x.North })
	for images := range 1 << sizeOf(s) {
		tell := func(number func(c course) int) (two[api.Span], bool) {
			a, is := slowSpan(east, images, number)
			b, too := slowSpan(north, images, number)
			if images == 0 || !is || !too || isOfOneNight(s, images) {
				return two[api.Span]{}, false
			}
			return two[api.Span]{a, b}, true
		}
		motion, fits := tell(func(c course) int { return c.motion })
		var where []two[api.Span]
		for _, day := range days {
			there, _ := tell(func(c course) int { return c.place + c.motion*day })
			where = append(where, there)
		}
		x.fits, x.motion, x.where = append(x.fits, fits), append(x.motion, motion), append(x.where, where)
	}
	joinings := slowJoinings(s, x.fits)
	x.count, x.simple, x.sure = len(joinings), []int{}, []int{}
	if len(joinings) == 0 {
		x.e.b = api.ErrClash
		return x, nil
	}
	x.gatherSlowly(sizeOf(s), joinings)
	return x, joinings
}

// gatherSlowly tells what all joinings of so many images tell.
func (x *told) gatherSlowly(images int, joinings [][]int) {
	in := func(is func(joining []int) bool) int {
		n := 0
		for _, joining := range joinings {
			if is(joining) {
				n++
			}
		}
		switch n {
		case 0:
			return api.OrbitNever
		case len(joinings):
			return api.OrbitAlways
		}
		return api.OrbitPerhaps
	}
	for a := range images {
		for b := range images {
			if a != b {
				x.together[a][b] = in(func(joining []int) bool {
					return slices.ContainsFunc(joining, func(set int) bool { return has(set, a) && has(set, b) })
				})
			}
		}
		switch in(func(joining []int) bool { return slices.Contains(joining, 1<<a) }) {
		case api.OrbitAlways:
			x.lost.a |= 1 << a
			x.lost.b |= 1 << a
		case api.OrbitPerhaps:
			x.lost.b |= 1 << a
		}
		for set := range 1 << images {
			if set != 0 && least(set) == a && in(func(joining []int) bool { return slices.Contains(joining, set) }) == api.OrbitAlways {
				x.sure = append(x.sure, set)
			}
		}
	}
	for bodies := 0; ; bodies++ {
		for _, joining := range joinings {
			if len(joining) == bodies {
				x.simple = append(x.simple, joining...)
				return
			}
		}
	}
}

// P8.1 to P8.8: all that is told is what all places and motions, and all sets of sets, tell.
func TestAgainstAllJoinings(t *testing.T) {
	r := random()
	var together, bodies [4]int
	clash, single, many, sure, lost, later, wide := 0, 0, 0, 0, 0, 0, 0
	for i := range 8000 {
		s := anySearch(r, 6)
		days := []int{0, pick(r, 1, 9)}
		got := tellAll(t, s, days...)
		want, joinings := slowly(s, days...)
		if !reflect.DeepEqual(got, want) {
			t.Fatalf("%d: %+v\n%+v, not\n%+v", i, s, got, want)
		}
		for set, fits := range want.fits {
			if fits {
				bodies[size(set)-1]++
				if m := want.motion[set].a; size(set) > 1 && m.Lo < m.Hi {
					wide++
				}
			}
		}
		if want.isClash() {
			clash++
			continue
		}
		if want.count == 1 {
			single++
		}
		if want.count > 5 {
			many++
		}
		if !slices.Equal(joinings[0], want.simple) {
			later++
		}
		sure, lost = sure+len(want.sure), lost+size(want.lost.a)
		for a := range sizeOf(s) {
			for b := range a {
				together[want.together[a][b]]++
			}
		}
	}
	if slices.Min(bodies[:]) < 100 || slices.Min(together[:3]) < 300 || min(clash, single, many, sure, lost, later, wide) < 200 {
		t.Error("too few searches of a kind:", bodies, together, clash, single, many, sure, lost, later, wide)
	}
}

// P8.4 to P8.8: with as many images as can be.
func TestAgainstMoreJoinings(t *testing.T) {
	r := random()
	joined := 0
	for i := range 60 {
		s := search(span(-pick(r, 1, 2), 2), pick(r, 0, 4))
		for day := range 4 {
			n := night(day)
			for range 2 {
				n.Spots = append(n.Spots, spot(around(r, pick(r, -3, 3), 1), around(r, 0, 1)))
			}
			s.Nights = append(s.Nights, n)
		}
		want, joinings := slowly(s)
		if got := tellAll(t, s); !reflect.DeepEqual(got, want) {
			t.Fatalf("%d: %+v\n%+v, not\n%+v", i, s, got, want)
		}
		if len(joinings) > 10 {
			joined++
		}
	}
	if joined < 20 {
		t.Error("too few searches with joinings:", joined)
	}
}
