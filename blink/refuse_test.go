package blink

import (
	"slices"
	"testing"

	"zoneworks/api"
)

// P1: whatever panics inside of a function, it is an error outside, and nothing else is told (R2).
func TestAnswerRecovers(t *testing.T) {
	for _, x := range []struct {
		name string
		ask  func() int
		want int
		e    api.Errno
	}{
		{"no panic", func() int { return 7 }, 7, api.OK},
		{"a refusal", func() int { insist(false, api.ErrRefuse); return 7 }, 0, api.ErrRefuse},
		{"no refusal", func() int { insist(true, api.ErrRefuse); return 7 }, 7, api.OK},
		{"another panic", func() int { panic("no error") }, 0, api.ErrArg},
	} {
		if got, e := answer(x.ask); got != x.want || e != x.e {
			t.Error(x.name, got, e)
		}
	}
}

// Terms: by how much numbers of two spans differ, whichever of them is the first one.
func TestDifferences(t *testing.T) {
	for _, x := range []struct {
		a, b api.Span
		want differences
	}{
		{api.Span{Lo: 5, Hi: 5}, api.Span{Lo: 5, Hi: 5}, differences{0, 0}},
		{api.Span{Lo: 5, Hi: 6}, api.Span{Lo: 8, Hi: 11}, differences{2, 6}},
		{api.Span{Lo: 5, Hi: 8}, api.Span{Lo: 8, Hi: 11}, differences{0, 6}},
		{api.Span{Lo: 5, Hi: 9}, api.Span{Lo: 8, Hi: 11}, differences{0, 6}},
		{api.Span{Lo: 0, Hi: 9}, api.Span{Lo: 3, Hi: 4}, differences{0, 6}},
		{api.Span{Lo: 0, Hi: 9}, api.Span{Lo: 7, Hi: 7}, differences{0, 7}},
	} {
		if got := differencesOf(x.a, x.b); got != x.want {
			t.Error(x.a, x.b, got)
		}
		if got := differencesOf(x.b, x.a); got != x.want {
			t.Error(x.b, x.a, got)
		}
	}
	for lo := range 5 {
		for hi := lo; hi < 5; hi++ {
			for least := range 6 {
				for most := range 6 {
					want := false
					for n := least; n <= most; n++ {
						want = want || lo <= n && n <= hi
					}
					if got := (differences{lo, hi}).some(least, most); got != want {
						t.Error(lo, hi, least, most, got)
					}
				}
			}
		}
	}
}

// The Ways of the chapter: what bits there are, of all that is asked, and of some.
func TestBits(t *testing.T) {
	p := pair{api.Blink{Move: 9, Still: 2, Vary: 9, Same: 2}, differences{0, 5}, differences{0, 0}, differences{4, 5}}
	all := questions()
	for _, x := range []struct {
		asked []question
		want  int
	}{
		{nil, 0}, {all, 11}, {all[:1], 1}, {all[1:2], 2}, {all[2:3], 0}, {all[3:], 8}, {all[2:], 8},
	} {
		if got := p.bits(x.asked...); got != x.want {
			t.Error(len(x.asked), got)
		}
	}
}

// open is a field of so many stars, all of which can be one body with one another.
func open(first, second int) field {
	f := field{look: look{first: make([]api.Trail, first), second: make([]api.Trail, second)}}
	for a := range first {
		for b := range second {
			f.can[a][b] = 1
		}
	}
	return f
}

// The Ways of the chapter: joinings come in lexicographic order, each once, with as many stars gone as can be, and only as
// long as they are asked for.
func TestJoiningsInOrder(t *testing.T) {
	// How many ways there are to join so many of n stars with so many of m others.
	var ways func(n, m, pairs int) int
	ways = func(n, m, pairs int) int {
		switch {
		case pairs == 0:
			return 1
		case n == 0 || m == 0:
			return 0
		}
		return ways(n-1, m, pairs) + m*ways(n-1, m-1, pairs-1)
	}
	for first := range 6 {
		for second := range 6 {
			f := open(first, second)
			for gone := range 12 {
				want := 0
				for pairs := range 6 {
					if first+second-2*pairs <= gone {
						want += ways(first, second, pairs)
					}
				}
				all := slices.Collect(f.joinings(gone))
				if len(all) != want {
					t.Error(first, second, gone, len(all), want)
				}
				for n, j := range all {
					if n > 0 && slices.Compare(all[n-1][:], j[:]) >= 0 {
						t.Error(all[n-1], j)
					}
				}
			}
		}
	}
	all := slices.Collect(open(3, 3).joinings(6))
	for stop := range all {
		var some []joining
		for j := range open(3, 3).joinings(6) {
			some = append(some, j)
			if len(some) == stop+1 {
				break
			}
		}
		if !slices.Equal(some, all[:stop+1]) {
			t.Error(stop, some)
		}
	}
}

// The pairs of a joining come by the numbers of First, and only as long as they are asked for.
func TestPairsOfJoining(t *testing.T) {
	j := noPairs()
	for range j.pairs {
		t.Error("no pair is none")
	}
	j[2], j[5], j[8] = 7, 0, 8
	var firsts, seconds []int
	for first, second := range j.pairs {
		firsts, seconds = append(firsts, first), append(seconds, second)
	}
	if !slices.Equal(firsts, []int{2, 5, 8}) || !slices.Equal(seconds, []int{7, 0, 8}) {
		t.Error(firsts, seconds)
	}
	for first := range j.pairs {
		if first == 5 {
			break
		}
		if first != 2 {
			t.Error(first)
		}
	}
}

// A list is made thing by thing, and it is new memory.
func TestListOf(t *testing.T) {
	double := func(n int) int { return 2 * n }
	things := []int{3, 1, 2}
	if got := listOf(things, double); !slices.Equal(got, []int{6, 2, 4}) || !slices.Equal(things, []int{3, 1, 2}) {
		t.Error(got, things)
	}
	if got := listOf(nil, double); len(got) != 0 {
		t.Error(got)
	}
}
