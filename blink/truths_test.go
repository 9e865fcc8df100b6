package blink_test

import (
	"reflect"
	"slices"
	"testing"

	"zoneworks/api"
	"zoneworks/image"
)

// A slow way, which goes through all places, all sizes and all sets of pairs: every small blink is told by it, too.

// slowDifferences returns all differences of a number of one span and one of another span.
func slowDifferences(a, b api.Span) map[int]bool {
	all := map[int]bool{}
	for n := a.Lo; n <= a.Hi; n++ {
		for m := b.Lo; m <= b.Hi; m++ {
			all[max(n-m, m-n)] = true
		}
	}
	return all
}

// some returns whether a difference is from one number to another one.
func some(differences map[int]bool, lo, hi int) bool {
	for d := range differences {
		if lo <= d && d <= hi {
			return true
		}
	}
	return false
}

// slowCan returns what two stars can be, each of which can be where an image is, and as large.
func slowCan(b api.Blink, first, second api.Spot) int {
	x, y, size := slowDifferences(first.X, second.X), slowDifferences(first.Y, second.Y), slowDifferences(first.Size, second.Size)
	if !some(x, 0, b.Move) || !some(y, 0, b.Move) || !some(size, 0, b.Vary) {
		return 0
	}
	bits := 0
	if some(x, 0, b.Still) && some(y, 0, b.Still) {
		bits |= api.BlinkStill
	}
	if some(x, b.Still+1, b.Move) || some(y, b.Still+1, b.Move) {
		bits |= api.BlinkMoved
	}
	if some(size, 0, b.Same) {
		bits |= api.BlinkEqual
	}
	if some(size, b.Same+1, b.Vary) {
		bits |= api.BlinkVaried
	}
	return bits
}

// slowStars returns the first images of the stars of a sheet, where these can be, and how large; or nothing but an error.
func slowStars(s api.Sheet) ([]int, []api.Spot, api.Errno) {
	trails, e := image.Fewest(s)
	images, places := []int{}, []api.Spot{}
	for _, trail := range trails {
		x, y, size, _ := image.Where(s, trail[0])
		images, places = append(images, trail[0]), append(places, spot(x, y, size))
	}
	return images, places, e
}

// slowJoinings returns all joinings, in lexicographic order: sets of pairs without a star that is in two of them.
func slowJoinings(can [][]int, first, second, gone int) [][]int {
	var pairs []two
	for f := range first {
		for s := range second {
			if can[f][s] != 0 {
				pairs = append(pairs, two{f, s})
			}
		}
	}
	var all [][]int
sets:
	for set := range 1 << len(pairs) {
		joining := slices.Repeat([]int{no}, first)
		for n, p := range pairs {
			if !has(set, n) {
				continue
			}
			if joining[p.a] != no || slices.Contains(joining, p.b) {
				continue sets
			}
			joining[p.a] = p.b
		}
		if first+second-2*size(set) <= gone {
			all = append(all, joining)
		}
	}
	slices.SortFunc(all, slices.Compare)
	return all
}

// changed returns the stars of First that are in a pair that can be something, and, if not is set, cannot be something else.
func changed(can [][]int, joining []int, is, not int) int {
	set := 0
	for first, second := range joining {
		if second != no && can[first][second]&is != 0 && can[first][second]&not == 0 {
			set |= 1 << first
		}
	}
	return set
}

// slowly returns what tellAll has to, and all joinings.
func slowly(b api.Blink) (told, [][]int) {
	first, firsts, e := slowStars(b.First)
	second, seconds, later := slowStars(b.Second)
	if e != api.OK || later != api.OK {
		return told{first: []int{}, second: []int{}, fewest: []int{}, errors: [6]api.Errno{4, 4, 4, 4, 4, 4}}, nil
	}
	x := told{first: first, second: second, fewest: []int{}}
	for _, f := range firsts {
		row := []int{}
		for _, s := range seconds {
			row = append(row, slowCan(b, f, s))
		}
		x.can = append(x.can, row)
	}
	joinings := slowJoinings(x.can, len(first), len(second), b.Gone)
	x.count = len(joinings)
	if len(joinings) == 0 {
		x.errors = [6]api.Errno{2: 11, 3: 11, 4: 11, 5: 11}
		return x, nil
	}
	x.gone = two{1<<len(first) - 1, 1<<len(second) - 1}
	x.moved.a, x.varied.a = x.gone.a, x.gone.a
	most := -1
	for _, j := range joinings {
		in := paired(j)
		if size(in.a) > most {
			most, x.fewest = size(in.a), append([]int{}, j...)
		}
		x.moved = two{x.moved.a & changed(x.can, j, api.BlinkMoved, api.BlinkStill), x.moved.b | changed(x.can, j, api.BlinkMoved, 0)}
		x.varied = two{x.varied.a & changed(x.can, j, api.BlinkVaried, api.BlinkEqual), x.varied.b | changed(x.can, j, api.BlinkVaried, 0)}
		x.gone = two{x.gone.a &^ in.a, x.gone.b &^ in.b}
	}
	return x, joinings
}

// P7.1 to P7.7: all that is told is what all places, sizes and sets of pairs tell.
func TestAgainstAllJoinings(t *testing.T) {
	r := random()
	var pairs, bits [16]int
	refused, untold, many, surely, perhaps, alone, later := 0, 0, 0, 0, 0, 0, 0
	for i := range 8000 {
		b := anyBlink(r, 3)
		got := tellAll(b)
		want, joinings := slowly(b)
		if !reflect.DeepEqual(got, want) {
			t.Fatalf("%d: %+v\n%+v, not\n%+v", i, b, got, want)
		}
		for _, row := range want.can {
			for _, n := range row {
				bits[n]++
			}
		}
		switch {
		case want.isUntold():
			untold++
			continue
		case want.isRefused():
			refused++
			continue
		}
		pairs[size(paired(want.fewest).a)]++
		if len(joinings) > 3 {
			many++
		}
		if !slices.Equal(joinings[0], want.fewest) {
			later++
		}
		surely += size(want.moved.a) + size(want.varied.a)
		perhaps += size(want.moved.b&^want.moved.a) + size(want.varied.b&^want.varied.a)
		alone += size(want.gone.a) + size(want.gone.b)
	}
	for n := range 16 {
		// What is one body stood still, or moved; and it is as large, or varied.
		if is := n == 0 || n&3 != 0 && n&12 != 0; is != (bits[n] > 100) || !is && bits[n] > 0 {
			t.Error("pairs of the bits", n, bits[n])
		}
	}
	if refused < 1000 || untold < 300 || slices.Min(pairs[:4]) < 100 || many < 500 || surely < 150 || perhaps < 1000 || alone < 500 || later < 500 {
		t.Error("too few blinks of a kind:", refused, untold, pairs, many, surely, perhaps, alone, later)
	}
}

// P7.3 to P7.7: with more stars, of which some can be one body.
func TestAgainstMoreJoinings(t *testing.T) {
	r := random()
	joined := 0
	for i := range 300 {
		b := api.Blink{Move: pick(r, 1, 3), Vary: pick(r, 1, 4), Gone: pick(r, 0, 8)}
		b.Still, b.Same = pick(r, 0, b.Move), pick(r, 0, b.Vary)
		for _, s := range []*api.Sheet{&b.First, &b.Second} {
			*s = single()
			for range pick(r, 4, 5) {
				s.Spots = append(s.Spots, seen(r, 100+pick(r, 0, 12), 200, 20+pick(r, 0, 3), pick(r, 0, 1)))
			}
		}
		want, joinings := slowly(b)
		if got := tellAll(b); !reflect.DeepEqual(got, want) {
			t.Fatalf("%d: %+v\n%+v, not\n%+v", i, b, got, want)
		}
		if len(joinings) > 0 {
			joined++
		}
	}
	if joined < 150 {
		t.Error("too few blinks with joinings:", joined)
	}
}
