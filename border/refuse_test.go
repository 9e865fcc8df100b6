package border

import (
	"cmp"
	"slices"
	"testing"

	"zoneworks/api"
)

// P1: whatever panics inside of a function, it is an error outside, and nothing else is told (R2).
func TestAnswerRecovers(t *testing.T) {
	for _, x := range []struct {
		name string
		ask  func() int
		want int
		e    api.Errno
	}{
		{"no panic", func() int { return 7 }, 7, api.OK},
		{"a refusal", func() int { insist(false, api.ErrNone); return 7 }, 0, api.ErrNone},
		{"no refusal", func() int { insist(true, api.ErrNone); return 7 }, 7, api.OK},
		{"another panic", func() int { panic("no error") }, 0, api.ErrArg},
	} {
		if got, e := answer(x.ask); got != x.want || e != x.e {
			t.Error(x.name, got, e)
		}
	}
}

// The Ways of the chapter: the least of several, and R6: of those that are equal the first one.
func TestLeast(t *testing.T) {
	tens := func(a, b int) int { return cmp.Compare(a/10, b/10) }
	for _, x := range []struct {
		several []int
		want    int
	}{
		{nil, 0}, {[]int{15}, 15}, {[]int{-15, -5}, -15}, {[]int{25, 12, 11}, 12}, {[]int{11, 12, 25}, 11}, {[]int{25, 31, 19}, 19},
	} {
		if got := least(tens, x.several...); got != x.want {
			t.Error(x.several, got)
		}
	}
}

// P6.7: which sides come first.
func TestOrderOfSides(t *testing.T) {
	order := []sides{{0, 0}, {0, 1}, {0, 4}, {1, 0}, {2, 0}, {0, 3}, {0, 5}, {1, 1}, {1, 2}, {4, 1}, {6, 0}, {0, 7}, {1, 3}, {1, 5}, {3, 4}, {7, 0}}
	for i, a := range order {
		for j, b := range order {
			if got := fewer(a, b); got != cmp.Compare(i, j) {
				t.Error(a, b, got)
			}
		}
	}
}

// The stars of a set come by rising numbers, and its parts each once; and only as long as they are asked for.
func TestStarsAndParts(t *testing.T) {
	for s := range set(64) {
		var stars []int
		for star := range s.stars {
			stars = append(stars, star)
		}
		if len(stars) != s.size() || !slices.IsSorted(stars) || slices.ContainsFunc(stars, func(star int) bool { return !s.has(star) }) {
			t.Error(s, stars)
		}
		for stop := range stars {
			n := 0
			for star := range s.stars {
				if star == stars[stop] {
					break
				}
				n++
			}
			if n != stop {
				t.Error(s, stop, n)
			}
		}
		seen := map[set]bool{}
		for part := range s.parts {
			if seen[part] || part&^s != 0 {
				t.Error(s, part)
			}
			seen[part] = true
		}
		if len(seen) != 1<<s.size() {
			t.Error(s, len(seen))
		}
		for range s.parts {
			break
		}
	}
}

// open is a border of so many stars, and stars that can be the same with one another.
func open(first, second int) (look, sames) {
	l := look{Border: api.Border{First: make([]api.Edge, first), Second: make([]api.Edge, second)}}
	var same sames
	for n := range first {
		same[n] = allOf(l.Second)
	}
	return l, same
}

// The Ways of the chapter: joinings come in lexicographic order, each once, and only as long as they are asked for.
func TestJoiningsInOrder(t *testing.T) {
	// How many ways there are to join some of n stars with some of m others.
	var ways func(n, m int) int
	ways = func(n, m int) int {
		if n == 0 || m == 0 {
			return 1
		}
		return ways(n-1, m) + m*ways(n-1, m-1)
	}
	for first := range 7 {
		for second := range 7 {
			l, same := open(first, second)
			all := slices.Collect(l.joinings(same, sides{}))
			if len(all) != ways(first, second) {
				t.Error(first, second, len(all))
			}
			for n, j := range all {
				if n > 0 && slices.Compare(all[n-1][:], j[:]) >= 0 {
					t.Error(all[n-1], j)
				}
			}
		}
	}
	l, same := open(3, 3)
	all := slices.Collect(l.joinings(same, sides{}))
	for stop := range all {
		var some []joining
		for j := range l.joinings(same, sides{}) {
			some = append(some, j)
			if len(some) == stop+1 {
				break
			}
		}
		if !slices.Equal(some, all[:stop+1]) {
			t.Error(stop, some)
		}
	}
}

// Terms: each star that is Sure, of both zones, is in a pair.
func TestJoiningsOfSure(t *testing.T) {
	l, same := open(3, 3)
	for first := range set(8) {
		for second := range set(8) {
			want := slices.DeleteFunc(slices.Collect(l.joinings(same, sides{})), func(j joining) bool {
				in := j.paired()
				return first&^in.first != 0 || second&^in.second != 0
			})
			if got := slices.Collect(l.joinings(same, sides{first, second})); !slices.Equal(got, want) {
				t.Error(first, second, got)
			}
		}
	}
}

// Shifts come by their east, and then by their north, each once; and all of a kind are together.
func TestKinds(t *testing.T) {
	edge := func(east, north int) api.Edge {
		return api.Edge{East: api.Span{Lo: east, Hi: east}, North: api.Span{Lo: north, Hi: north}}
	}
	l := lookAt(api.Border{
		East: api.Span{Lo: -1, Hi: 1}, North: api.Span{Lo: 2, Hi: 3},
		First: []api.Edge{edge(0, 2)}, Second: []api.Edge{edge(0, 0), edge(-1, -1), edge(0, 0)},
	})
	want := []shift{{-1, 2}, {-1, 3}, {0, 2}, {0, 3}, {1, 2}, {1, 3}}
	if got := slices.Collect(l.shifts()); !slices.Equal(got, want) {
		t.Error(got)
	}
	for stop := range want {
		n := 0
		for s := range l.shifts() {
			if s == want[stop] {
				break
			}
			n++
		}
		if n != stop {
			t.Error(stop, n)
		}
	}
	got := l.kinds()
	kinds := []alike{
		{sames{}, []shift{{-1, 2}, {-1, 3}, {0, 3}, {1, 2}}},
		{sames{5}, []shift{{0, 2}}},
		{sames{2}, []shift{{1, 3}}},
	}
	if !slices.EqualFunc(got, kinds, func(a, b alike) bool { return a.same == b.same && slices.Equal(a.shifts, b.shifts) }) {
		t.Error(got)
	}
}

// What is in pairs together, and so are all parts of it.
func TestTogether(t *testing.T) {
	can := together{}
	j := noPairs()
	j[0], j[2] = 3, 1
	for _, want := range []int{16, 16} {
		if !can.take(nil, j) || len(can) != want {
			t.Error(can)
		}
	}
	for first := range set(8) {
		for second := range set(16) {
			if got, want := can[sides{first, second}], first&^5 == 0 && second&^10 == 0; got != want {
				t.Error(first, second, got)
			}
		}
	}
}
