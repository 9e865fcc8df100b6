package cover_test

import (
	"math/rand/v2"
	"reflect"
	"slices"
	"testing"

	"zoneworks/api"
	"zoneworks/cover"
)

// What follows of the promises (P10.9), and the document's own promises (P9, P12).

// P10.9: who asks for a place finds it on as many plates of the shortest list as are wanted; no list is shorter, and all
// plates that are needed are in each list.
func TestShortestServes(t *testing.T) {
	r := random()
	lists, longer, needed := 0, 0, 0
	for range 1500 {
		f := anyField(r, pick(r, 1, 6), 4)
		x := tellAll(t, f)
		if x.e != api.OK {
			continue
		}
		if slices.Contains(x.served[x.shortest], false) || !isIn(x.shortest, x.useful) || !isIn(x.needed, x.useful) {
			t.Fatal(f, x)
		}
		common, many := x.useful, 0
		for plates, missing := range x.missing {
			if missing.places > 0 {
				continue
			}
			lists++
			common &= plates
			if size(plates) == size(x.shortest) {
				many++
			}
			if size(plates) < size(x.shortest) || size(plates) == size(x.shortest) && plates < x.shortest {
				t.Fatal("there is a list before the first one", f, plates, x.shortest)
			}
			if size(plates) < f.Times*len(x.apart) || !isIn(x.needed, plates) {
				t.Fatal("a list cannot be so", f, plates, x)
			}
		}
		same(t, "Lists", many, x.lists)
		same(t, "Needed", common, x.needed)
		longer += size(x.shortest) - f.Times*len(x.apart)
		needed += size(x.needed)
	}
	if !isMany(20, lists, longer, needed) {
		t.Error("too few fields of a kind:", lists, longer, needed)
	}
}

// Terms: places that are apart are in their order, each two of them on no plate of use together.
func TestApart(t *testing.T) {
	r := random()
	pairs := 0
	for range 1500 {
		f := anyField(r, pick(r, 3, 9), 5)
		x := tell(t, f)
		for n, a := range x.apart {
			for _, b := range x.apart[:n] {
				pairs++
				if slices.Compare(b[:], a[:]) >= 0 || !areApart(f, a, b) {
					t.Fatal(f, x.apart)
				}
			}
		}
	}
	if pairs < 200 {
		t.Error("too few places that are apart:", pairs)
	}
}

// P10.2, P10.3: with more plates no fewer places are served; a set tells the same as the plates of it that are of use.
func TestMoreServe(t *testing.T) {
	r := random()
	more, alike := 0, 0
	for range 300 {
		f := anyField(r, pick(r, 1, 6), 3)
		x := tellAll(t, f)
		for plates, served := range x.served {
			if plates != plates&x.useful {
				alike++
			}
			if !slices.Equal(served, x.served[plates&x.useful]) || x.missing[plates] != x.missing[plates&x.useful] {
				t.Fatal("of use", f, plates)
			}
			for n, is := range served {
				for one := range f.Plates {
					if is && !x.served[plates|1<<one][n] {
						t.Fatal("a plate more", f, plates, n, one)
					}
					if !is && x.served[plates|1<<one][n] {
						more++
					}
				}
			}
			missing := x.missing[plates]
			first := slices.Index(served, false)
			if missing.places == 0 {
				same(t, "a place that is missing", first, -1)
			} else {
				same(t, "the first place that is missing", [2]int{missing.east, missing.north}, placesOf(f)[first])
			}
		}
	}
	if !isMany(200, more, alike) {
		t.Error("too few sets of a kind:", more, alike)
	}
}

// easier returns a field that asks for less, or has a plate more; its plates have the same numbers.
func easier(r *rand.Rand, f api.Field) api.Field {
	f = copyOf(f)
	switch r.IntN(8) {
	case 0:
		f.Plates = append(f.Plates, anyField(r, 1, 5).Plates[0])
		p := &f.Plates[len(f.Plates)-1]
		p.East, p.North, p.Day, p.Depth = near(r, f.East), near(r, f.North), pick(r, f.Days.Lo, f.Days.Hi), pick(r, f.Depth, 99)
	case 1:
		f.Depth = pick(r, 0, f.Depth)
	case 2:
		f.Times = pick(r, 1, f.Times)
	case 3:
		f.Gap = pick(r, 0, f.Gap)
	case 4:
		f.East = span(pick(r, f.East.Lo, f.East.Hi), f.East.Hi)
	case 5:
		f.East = span(f.East.Lo, pick(r, f.East.Lo, f.East.Hi))
	case 6:
		f.North = within(r, f.North.Lo, f.North.Hi)
	case 7:
		f.Days = span(max(0, f.Days.Lo-9), min(api.MaxDay, f.Days.Hi+9))
	}
	return f
}

// P10.9: with a plate more, a lesser depth, times or gap, fewer places, or more days, no shortest list is longer.
func TestEasier(t *testing.T) {
	r := random()
	found, shorter := 0, 0
	for range 4000 {
		f := anyField(r, pick(r, 1, 8), 5)
		other := easier(r, f)
		x, y := tell(t, f), tell(t, other)
		if y.e != api.OK {
			same(t, "there is no list of more either", x.e, api.ErrNone)
			continue
		}
		if x.e != api.OK {
			found++
			continue
		}
		if size(y.shortest) > size(x.shortest) {
			t.Fatal(f, other, x.shortest, y.shortest)
		}
		if size(y.shortest) < size(x.shortest) {
			shorter++
		}
		_, _, _, e := cover.Missing(other, x.shortest)
		same(t, "the list of more is one of less", e, api.ErrNone)
	}
	if !isMany(100, found, shorter) {
		t.Error("too few fields of a kind:", found, shorter)
	}
}

// renumbered returns a set of plates that have other numbers.
func renumbered(set int, to []int) int {
	other := 0
	for n, now := range to {
		if has(set, n) {
			other |= 1 << now
		}
	}
	return other
}

// P10.9, P12: if plates are told in another order, only their numbers change; of several lists that are as short another
// one may be the least number.
func TestNumbers(t *testing.T) {
	r := random()
	moved := 0
	for range 600 {
		f := anyField(r, pick(r, 2, 6), 4)
		other, to := copyOf(f), r.Perm(len(f.Plates))
		for n, now := range to {
			other.Plates[now] = f.Plates[n]
		}
		x, y := tellAll(t, f), tellAll(t, other)
		same(t, "errors", y.e, x.e)
		same(t, "Useful", y.useful, renumbered(x.useful, to))
		same(t, "Shortest", size(y.shortest), size(x.shortest))
		same(t, "Lists", y.lists, x.lists)
		same(t, "Needed", y.needed, renumbered(x.needed, to))
		if !slices.Equal(y.apart, x.apart) {
			t.Fatal("Apart", f, to, x.apart, y.apart)
		}
		if x.e == api.OK && y.shortest != renumbered(x.shortest, to) {
			moved++
		}
		for plates, served := range x.served {
			now := renumbered(plates, to)
			same(t, "Missing", y.missing[now], x.missing[plates])
			if !slices.Equal(y.served[now], served) {
				t.Fatal("Served", f, to, plates)
			}
		}
	}
	if moved < 20 {
		t.Error("too few fields in another order:", moved)
	}
}

// Terms: if all days are told from the last one backwards, or from another one on, nothing changes.
func TestOtherDays(t *testing.T) {
	r := random()
	for range 400 {
		f := anyField(r, pick(r, 1, 6), 4)
		back, later := copyOf(f), copyOf(f)
		back.Days = span(api.MaxDay-f.Days.Hi, api.MaxDay-f.Days.Lo)
		most := api.MaxDay - f.Days.Hi
		for n, p := range f.Plates {
			back.Plates[n].Day = api.MaxDay - p.Day
			most = min(most, api.MaxDay-p.Day)
		}
		by := pick(r, 0, most)
		later.Days = span(f.Days.Lo+by, f.Days.Hi+by)
		for n := range f.Plates {
			later.Plates[n].Day += by
		}
		x := tellAll(t, f)
		if y := tellAll(t, back); !reflect.DeepEqual(x, y) {
			t.Fatal(f, back, x, y)
		}
		if y := tellAll(t, later); !reflect.DeepEqual(x, y) {
			t.Fatal(f, later, x, y)
		}
	}
}

// Terms: east and north differ only in the order of places.
func TestDirections(t *testing.T) {
	r := random()
	for range 400 {
		f := anyField(r, pick(r, 1, 6), 4)
		other := copyOf(f)
		other.East, other.North = f.North, f.East
		for n, p := range f.Plates {
			other.Plates[n].East, other.Plates[n].North = p.North, p.East
		}
		x, y := tellAll(t, f), tellAll(t, other)
		same(t, "Useful", y.useful, x.useful)
		same(t, "Shortest", y.shortest, x.shortest)
		same(t, "Lists", y.lists, x.lists)
		same(t, "Needed", y.needed, x.needed)
		same(t, "Apart", len(y.apart), len(x.apart))
		for plates, served := range x.served {
			same(t, "Missing", y.missing[plates].places, x.missing[plates].places)
			for n, p := range placesOf(f) {
				same(t, "Served", y.served[plates][slices.Index(placesOf(other), [2]int{p[1], p[0]})], served[n])
			}
		}
	}
}

// Terms: a plate that is of no use, and what of a plate is beyond the field, changes nothing.
func TestOfNoUse(t *testing.T) {
	r := random()
	useless := 0
	for range 400 {
		f := anyField(r, pick(r, 1, 6), 4)
		x := tell(t, f)
		other := copyOf(f)
		for n, p := range f.Plates {
			if has(x.useful, n) {
				other.Plates[n].East = span(max(p.East.Lo, f.East.Lo), min(p.East.Hi, f.East.Hi))
				other.Plates[n].North = span(max(p.North.Lo, f.North.Lo), min(p.North.Hi, f.North.Hi))
				other.Plates[n].Depth = pick(r, f.Depth, api.CoverDepth)
			} else {
				useless++
				other.Plates[n] = plate(p.East, p.North, pick(r, 0, api.MaxDay), 0)
				if f.Depth == 0 {
					other.Plates[n] = p
				}
			}
		}
		if y := tell(t, other); !reflect.DeepEqual(x, y) {
			t.Fatal(f, other, x, y)
		}
	}
	if useless < 100 {
		t.Error("too few plates that are of no use:", useless)
	}
}
