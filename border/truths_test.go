package border_test

import (
	"reflect"
	"slices"
	"testing"

	"zoneworks/api"
)

// A slow way, which goes through all shifts, all places and all sets of pairs: every small border is told by it, too.

// common returns whether an integer of one span, and a number, together are an integer of another span.
func common(from api.Span, by int, to api.Span) bool {
	for n := from.Lo; n <= from.Hi; n++ {
		if in(n+by, to) {
			return true
		}
	}
	return false
}

// slowSame returns whether two stars can be the same.
func slowSame(first, second api.Edge, with two) bool {
	return common(second.East, with.a, first.East) && common(second.North, with.b, first.North) && common(second.Bright, 0, first.Bright)
}

// slowJoinings returns all joinings with a shift, in lexicographic order, whoever is Sure: sets of pairs without a star
// that is in two of them.
func slowJoinings(b api.Border, with two) [][]int {
	var pairs []two
	for first := range b.First {
		for second := range b.Second {
			if slowSame(b.First[first], b.Second[second], with) {
				pairs = append(pairs, two{first, second})
			}
		}
	}
	var all [][]int
sets:
	for set := range 1 << len(pairs) {
		joining := slices.Repeat([]int{no}, len(b.First))
		for n, p := range pairs {
			if !has(set, n) {
				continue
			}
			if joining[p.a] != no || slices.Contains(joining, p.b) {
				continue sets
			}
			joining[p.a] = p.b
		}
		all = append(all, joining)
	}
	slices.SortFunc(all, slices.Compare)
	return all
}

// paired returns the sets of the stars that are in a pair.
func paired(joining []int) two {
	var p two
	for first, second := range joining {
		if second != no {
			p.a |= 1 << first
			p.b |= 1 << second
		}
	}
	return p
}

// sureStars returns the sets of the stars that are Sure.
func sureStars(b api.Border) two {
	var p two
	for n, s := range b.First {
		if s.Sure {
			p.a |= 1 << n
		}
	}
	for n, s := range b.Second {
		if s.Sure {
			p.b |= 1 << n
		}
	}
	return p
}

// holds returns whether sets of stars contain others.
func holds(all, some two) bool { return some.a&^all.a == 0 && some.b&^all.b == 0 }

// slowClash returns the fewest stars that are in pairs together in none of some joinings, of all shifts.
func slowClash(b api.Border, joinings map[two][][]int) two {
	sure, least := sureStars(b), two{-1, -1}
	for first := range 1 << len(b.First) {
		for second := range 1 << len(b.Second) {
			need := two{first, second}
			more := size(least.a) + size(least.b) - size(first) - size(second)
			if !holds(sure, need) || least.a >= 0 && more <= 0 {
				continue
			}
			can := false
			for _, l := range joinings {
				can = can || slices.ContainsFunc(l, func(j []int) bool { return holds(paired(j), need) })
			}
			if !can {
				least = need
			}
		}
	}
	return least
}

// slowly returns what tellAll has to.
func slowly(b api.Border) told {
	joinings, sure := map[two][][]int{}, sureStars(b)
	x := told{joining: []int{}, alone: two{1<<len(b.First) - 1, 1<<len(b.Second) - 1}, pairs: slices.Repeat([]two{{-1, 0}}, len(b.First))}
	most, found := -1, false
	for _, s := range shifts(b) {
		joinings[s] = slowJoinings(b, s)
		for _, j := range joinings[s] {
			in := paired(j)
			if !holds(in, sure) {
				continue
			}
			if !found {
				x.east, x.north, found = only(s.a), only(s.b), true
			}
			x.east, x.north = span(min(x.east.Lo, s.a), max(x.east.Hi, s.a)), span(min(x.north.Lo, s.b), max(x.north.Hi, s.b))
			x.alone = two{x.alone.a &^ in.a, x.alone.b &^ in.b}
			for first, second := range j {
				set := 0
				if second != no {
					set = 1 << second
				}
				x.pairs[first] = two{x.pairs[first].a & set, x.pairs[first].b | set}
			}
			if size(in.a) > most {
				most, x.best, x.joining = size(in.a), s, append([]int{}, j...)
			}
		}
	}
	if found {
		x.errors[3] = api.ErrNone
	} else {
		x = told{pairs: make([]two, len(b.First)), joining: []int{}, clash: slowClash(b, joinings), errors: [4]api.Errno{api.ErrNone, api.ErrNone, api.ErrNone, api.OK}}
	}
	if len(b.First) == 0 {
		x.pairs = nil
	}
	return x
}

// P6.3 to P6.7: all that is told is what all joinings with all shifts tell.
func TestAgainstAllJoinings(t *testing.T) {
	r := random()
	var clashes, pairs [9]int
	mixed, some, surely, partners := 0, 0, 0, 0
	for i := range 6000 {
		b := anyBorder(r, 3)
		got, want := tellAll(b), slowly(b)
		if !reflect.DeepEqual(got, want) {
			t.Fatalf("%d: %+v\n%+v, not\n%+v", i, b, got, want)
		}
		if !want.isPossible() {
			clashes[size(want.clash.a)+size(want.clash.b)]++
			if want.clash.a > 0 && want.clash.b > 0 {
				mixed++
			}
			continue
		}
		pairs[size(paired(want.joining).a)]++
		if want.east != b.East && want.north != b.North {
			some++
		}
		for _, p := range want.pairs {
			if p.a != 0 {
				surely++
			} else if size(p.b) > 1 {
				partners++
			}
		}
	}
	if clashes[1] < 300 || clashes[2] < 100 || clashes[3] < 10 || mixed < 20 || pairs[1] < 300 || pairs[2] < 300 || pairs[3] < 100 || some < 50 || surely < 200 || partners < 500 {
		t.Error("too few borders of a kind:", clashes, mixed, pairs, some, surely, partners)
	}
}

// P6.1 and P6.2: which stars can be the same with each shift, and how many joinings there are.
func TestAgainstAllPlaces(t *testing.T) {
	r := random()
	var counts [9]int
	is, not := 0, 0
	for i := range 1500 {
		b := anyBorder(r, 3)
		sure := sureStars(b)
		for _, s := range shifts(b) {
			for first := range b.First {
				for second := range b.Second {
					want := slowSame(b.First[first], b.Second[second], s)
					if got := canBeSame(t, b, first, second, s); got != want {
						t.Fatal(i, b, first, second, s, got)
					}
					if want {
						is++
					} else {
						not++
					}
				}
			}
			want := 0
			for _, j := range slowJoinings(b, s) {
				if holds(paired(j), sure) {
					want++
				}
			}
			if got := count(t, b, s); got != want {
				t.Fatal(i, b, s, got, want)
			}
			counts[min(want, 8)]++
		}
	}
	if is < 3000 || not < 3000 || slices.Min(counts[:5]) < 100 || counts[8] < 100 {
		t.Error("too few of a kind:", is, not, counts)
	}
}
