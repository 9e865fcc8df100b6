package orbit_test

import (
	"math"
	"reflect"
	"slices"
	"testing"

	"zoneworks/api"
	"zoneworks/orbit"
)

// unsound are sets of images, days and numbers of images that no search has, and some that it has.
func unsound() []int {
	return []int{0, 1, 2, 3, -1, 8, 256, 1 << 17, 1 << 40, math.MinInt, math.MaxInt}
}

// refused fails unless each function refuses a search that is not valid, whatever else it is given, and tells nothing (R1, R2).
func refused(t *testing.T, name string, s api.Search) {
	t.Helper()
	const want = api.ErrArg
	none := two[api.Span]{}
	for _, a := range unsound() {
		is, e := orbit.Fits(s, a)
		same(t, "Fits, "+name, two[any]{is, e}, two[any]{false, want})
		east, north, e := orbit.Motion(s, a)
		same(t, "Motion, "+name, two[any]{two[api.Span]{east, north}, e}, two[any]{none, want})
		for _, b := range unsound() {
			east, north, e := orbit.Where(s, a, b)
			same(t, "Where, "+name, two[any]{two[api.Span]{east, north}, e}, two[any]{none, want})
			n, e := orbit.Together(s, a, b)
			same(t, "Together, "+name, two[any]{n, e}, two[any]{0, want})
		}
	}
	n, e := orbit.Count(s)
	same(t, "Count, "+name, two[any]{n, e}, two[any]{0, want})
	surely, can, e := orbit.Lost(s)
	same(t, "Lost, "+name, two[any]{two[int]{surely, can}, e}, two[any]{two[int]{}, want})
	simple, e := orbit.Simple(s)
	same(t, "Simple, "+name, two[any]{len(simple), e}, two[any]{0, want})
	sure, e := orbit.Sure(s)
	same(t, "Sure, "+name, two[any]{len(sure), e}, two[any]{0, want})
}

// taken fails unless all functions take a search, whether or not there is a joining.
func taken(t *testing.T, name string, s api.Search) {
	t.Helper()
	if x := tellAll(t, s, 0); !x.isJoined() && !x.isClash() {
		t.Error(name, x.e)
	}
}

// Terms: the numbers of a search, each of them at both of its bounds.
func TestValidNumbers(t *testing.T) {
	for name, x := range map[string]struct {
		lo, hi int
		of     func(s *api.Search) *int
	}{
		"Strays":               {0, 8, func(s *api.Search) *int { return &s.Strays }},
		"Strays, of no images": {0, 8, func(s *api.Search) *int { s.Nights = nil; return &s.Strays }},
		"least Speed":          {-500, 20, func(s *api.Search) *int { return &s.Speed.Lo }},
		"greatest Speed":       {-20, 500, func(s *api.Search) *int { return &s.Speed.Hi }},
		"Speed above zero":     {7, 500, func(s *api.Search) *int { s.Speed.Lo = 7; return &s.Speed.Hi }},
		"Speed below zero":     {-500, -7, func(s *api.Search) *int { s.Speed.Hi = -7; return &s.Speed.Lo }},
		"the first day":        {0, 12, func(s *api.Search) *int { return &s.Nights[0].Day }},
		"a day between others": {11, 19, func(s *api.Search) *int { return &s.Nights[1].Day }},
		"the last day":         {14, 65536, func(s *api.Search) *int { return &s.Nights[2].Day }},
		"the only day":         {0, 65536, func(s *api.Search) *int { s.Nights = s.Nights[:1]; return &s.Nights[0].Day }},
		"a day of no images":   {14, 19, func(s *api.Search) *int { s.Nights = slices.Insert(s.Nights, 2, night(0)); return &s.Nights[2].Day }},
		"the last, of none":    {21, 65536, func(s *api.Search) *int { s.Nights = append(s.Nights, night(0)); return &s.Nights[3].Day }},
		"East, from":           {-1 << 28, 102, func(s *api.Search) *int { return &s.Nights[0].Spots[0].East.Lo }},
		"East, to":             {100, 1 << 28, func(s *api.Search) *int { return &s.Nights[0].Spots[0].East.Hi }},
		"North, from":          {-1 << 28, 82, func(s *api.Search) *int { return &s.Nights[0].Spots[1].North.Lo }},
		"North, to":            {80, 1 << 28, func(s *api.Search) *int { return &s.Nights[0].Spots[1].North.Hi }},
		"East, from, the last": {-1 << 28, 202, func(s *api.Search) *int { return &s.Nights[2].Spots[0].East.Lo }},
		"North, to, the last":  {60, 1 << 28, func(s *api.Search) *int { return &s.Nights[2].Spots[0].North.Hi }},
		"North, from, between": {-1 << 28, 81, func(s *api.Search) *int { return &s.Nights[1].Spots[1].North.Lo }},
		"East, to, at the edge": {-1 << 28, 1 << 28, func(s *api.Search) *int {
			s.Nights[2].Spots[0].East.Lo = -1 << 28
			return &s.Nights[2].Spots[0].East.Hi
		}},
	} {
		s := example()
		of := x.of(&s)
		for _, bad := range []int{x.lo - 1, x.hi + 1, math.MinInt, math.MaxInt} {
			*of = bad
			refused(t, name, s)
		}
		for _, good := range []int{x.lo, x.hi, (x.lo + x.hi) / 2} {
			*of = good
			taken(t, name, s)
		}
	}
}

// Terms: how many nights there can be, and how many images of all of them.
func TestValidLists(t *testing.T) {
	for nights := range 8 {
		s := search(only(0), 0)
		for day := range nights {
			s.Nights = append(s.Nights, night(day))
		}
		if nights > 4 {
			refused(t, "too many nights", s)
		} else {
			taken(t, "nights", s)
		}
	}
	for _, images := range [][]int{{8}, {0, 8}, {8, 0}, {2, 2, 2, 2}, {5, 3}, {1, 0, 0, 7}, {7, 1, 0, 0}, {0, 0, 0, 8}} {
		taken(t, "images", wide(8, images...))
		for n := range images {
			more := slices.Clone(images)
			more[n]++
			refused(t, "one image more", wide(8, more...))
			more[n] = 3000
			refused(t, "many images more", wide(8, more...))
		}
	}
	refused(t, "far too many nights", search(only(0), 0, make([]api.OrbitNight, 5000)...))
	taken(t, "nothing", api.Search{})
}

// Errors: ErrRange unless a set is one of some images; it comes before ErrNone.
func TestNoImages(t *testing.T) {
	for name, x := range map[string]struct {
		s   api.Search
		all int
	}{
		"example":    {example(), 31},
		"no images":  {api.Search{}, 0},
		"no nights":  {rows(9, 0, nil, nil), 0},
		"one":        {rows(9, 0, []int{1}), 1},
		"as many":    {wide(0, 2, 2, 2, 2), 255},
		"no joining": {rows(9, 0, []int{1}, []int{80}), 3},
	} {
		for _, bad := range []int{0, -1, x.all + 1, 2 * (x.all + 1), x.all + 2, -x.all - 1, 256, 1 << 31, 1<<40 | 1, math.MinInt, math.MinInt | 1, math.MaxInt} {
			is, e := orbit.Fits(x.s, bad)
			same(t, name, two[any]{is, e}, two[any]{false, api.ErrRange})
			east, north, e := orbit.Motion(x.s, bad)
			same(t, name, two[any]{two[api.Span]{east, north}, e}, two[any]{two[api.Span]{}, api.ErrRange})
			for _, day := range []int{0, 20, 1 << 16, -1} {
				east, north, e = orbit.Where(x.s, bad, day)
				same(t, name, two[any]{two[api.Span]{east, north}, e}, two[any]{two[api.Span]{}, api.ErrRange})
			}
		}
		for good := 1; good <= x.all; good++ {
			_, e := orbit.Fits(x.s, good)
			same(t, name, e, api.OK)
		}
	}
}

// Errors: ErrRange unless a day is one, also if the images are no body.
func TestNoDay(t *testing.T) {
	for _, images := range []int{set(0, 2), set(0), set(0, 1), set(0, 1, 2, 3, 4)} {
		for _, day := range []int{-1, 1<<16 + 1, math.MinInt, math.MaxInt} {
			east, north, e := orbit.Where(example(), images, day)
			same(t, "Where", two[any]{two[api.Span]{east, north}, e}, two[any]{two[api.Span]{}, api.ErrRange})
		}
		want := api.OK
		if has(images, 1) {
			want = api.ErrNone
		}
		for _, day := range []int{0, 1 << 16, 12} {
			_, _, e := orbit.Where(example(), images, day)
			same(t, "Where", e, want)
		}
	}
}

// Errors: ErrRange unless numbers of images are such, and two of them; it comes before ErrClash.
func TestNoTwoImages(t *testing.T) {
	for name, x := range map[string]struct {
		s      api.Search
		images int
		want   api.Errno
	}{
		"example":            {example(), 5, api.OK},
		"no images":          {api.Search{}, 0, api.OK},
		"one":                {rows(9, 1, []int{1}), 1, api.OK},
		"as many":            {wide(0, 2, 2, 2, 2), 8, api.OK},
		"no joining":         {rows(9, 0, []int{1}, []int{80}), 2, api.ErrClash},
		"no joining of five": {example(func(s *api.Search) { s.Strays = 0; s.Nights[0].Spots[0].East = only(500) }), 5, api.ErrClash},
	} {
		numbers := []int{-1, 0, 1, 2, 3, 4, 5, 6, 7, 8, 64, math.MinInt, math.MaxInt}
		for _, a := range numbers {
			for _, b := range numbers {
				want := x.want
				if a == b || min(a, b) < 0 || max(a, b) >= x.images {
					want = api.ErrRange
				}
				n, e := orbit.Together(x.s, a, b)
				same(t, name, e, want)
				if e != api.OK {
					same(t, name, n, 0)
				}
			}
		}
	}
}

// R3: a nil list is an empty one.
func TestNilAndEmpty(t *testing.T) {
	empty, none := search(only(0), 0), search(only(0), 0)
	empty.Nights = []api.OrbitNight{}
	if a, b := tellAll(t, empty), tellAll(t, none); !reflect.DeepEqual(a, b) || !a.isJoined() {
		t.Error(a, b)
	}
	empty, none = example(), example()
	empty.Nights, none.Nights = append(empty.Nights, night(30)), append(none.Nights, night(30))
	empty.Nights[3].Spots = []api.OrbitSpot{}
	if a, b := tellAll(t, empty), tellAll(t, none); !reflect.DeepEqual(a, b) || !a.isJoined() {
		t.Error(a, b)
	}
}

// R4, and the second half of P12: no argument is changed, not even what is behind its lists; what is asked again is told
// again; and no result is memory of another one.
func TestArgumentsStay(t *testing.T) {
	for _, s := range []api.Search{example(), example(withStrays(0)), example(withStrays(5)), wide(8, 2, 2, 2), rows(9, 0, []int{1})} {
		s = copyOf(s)
		s.Nights = append(s.Nights, night(77))[:len(s.Nights)]
		for n, x := range s.Nights {
			s.Nights[n].Spots = append(x.Spots, spot(only(88), only(99)))[:len(x.Spots)]
		}
		behind := s
		behind.Nights = slices.Clone(s.Nights[:len(s.Nights)+1])
		for n, x := range s.Nights {
			behind.Nights[n].Spots = x.Spots[:len(x.Spots)+1]
		}
		before := copyOf(behind)
		a := tellAll(t, s, 0, 9)
		simple, _ := orbit.Simple(s)
		sure, _ := orbit.Sure(s)
		for _, list := range [][]int{simple, sure} {
			for n := range list {
				list[n] = 99
			}
			_ = append(list, 98, 97, 96)
		}
		if again := tellAll(t, s, 0, 9); !reflect.DeepEqual(a, again) {
			t.Error(a, again)
		}
		if after := copyOf(behind); !reflect.DeepEqual(after, before) || s.Nights[:len(s.Nights)+1][len(s.Nights)].Day != 77 {
			t.Error(after, before)
		}
	}
}

// P1: the largest searches end, as fast as bodies can be, and wherever they are.
func TestLargest(t *testing.T) {
	for _, strays := range []int{0, 3, 8} {
		late := wide(strays, 2, 2, 2, 2)
		for n := range late.Nights {
			late.Nights[n].Day = api.MaxDay - 3 + n
		}
		early := wide(strays, 2, 2, 2, 2)
		if a, b := tellAll(t, late), tellAll(t, early); !reflect.DeepEqual(a, b) || !a.isJoined() {
			t.Error(a, b)
		}
		const reach = 1<<28 + 500*(1<<16)
		east, north, e := orbit.Where(early, set(0), api.MaxDay)
		same(t, "Where", two[any]{two[api.Span]{east, north}, e}, two[any]{two[api.Span]{span(-reach, reach), span(-reach, reach)}, api.OK})
	}
	// Bodies that the fastest motion alone joins, at the edges of the sky.
	edge := search(span(-500, 500), 0, night(0, at(-1<<28, 1<<28)...), night(1, at(-1<<28+500, 1<<28-500)...), night(2, at(-1<<28+1000, 1<<28-1000)...), night(3, at(-1<<28+1500, 1<<28-1500)...))
	x := tellAll(t, edge)
	if !x.isJoined() || x.count != 16 || !slices.Equal(x.simple, []int{85, 170}) {
		t.Error(x.count, x.simple)
	}
	same(t, "Motion", x.motion[85], two[api.Span]{only(500), only(0)})
	same(t, "Motion", x.motion[170], two[api.Span]{only(-500), only(0)})
}
