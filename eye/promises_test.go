package eye_test

import (
	"testing"

	"zoneworks/api"
	"zoneworks/eye"
)

// row is a watch of which each habit is 130 greater than the one before; the looks are in the order in which bounds come
// the longest way.
func row() api.Watch {
	return exact(span(-200, 200), look(0, 3, 700), look(0, 0, 500), look(1, 0, 370), look(1, 1, 830), look(2, 1, 700), look(2, 2, 930), look(3, 2, 800))
}

// backward is a watch with its looks in the other order.
func backward(w api.Watch) api.Watch {
	var looks []api.Look
	for _, l := range w.Looks {
		looks = append([]api.Look{l}, looks...)
	}
	w.Looks = looks
	return w
}

// turns is a watch whose screw has 40 turns, of which all are exact but the last one.
func turns(looks ...api.Look) api.Watch {
	w := exact(span(-200, 200), looks...)
	w.Screw.Errors = make([]api.Span, 40)
	w.Screw.Errors[39] = span(-100, 50)
	return w
}

// P3.1: what habits measurers can have.
func TestHabit(t *testing.T) {
	wide := span(-20, 20)
	two := []api.Look{look(0, 0, 10), look(1, 0, 13)}
	for _, x := range []struct {
		name string
		w    api.Watch
		eye  int
		want api.Span
		e    api.Errno
	}{
		{"first example", example(), 0, span(-18, 20), api.OK},
		{"second example", example(), 1, span(-20, 18), api.OK},
		{"third example", example(), 2, span(-20, 20), api.OK},
		{"example, Habit from 0", sample(span(0, 20)), 0, span(2, 20), api.OK},
		{"example, Habit to 0", sample(span(-20, 0)), 1, span(-20, -2), api.OK},
		{"sixth look", example(sixth()), 0, api.Span{}, api.ErrClash},
		{"no look", exact(wide), 3, wide, api.OK},
		{"no habit", exact(span(0, 0)), 0, span(0, 0), api.OK},
		{"one look", exact(wide, look(0, 0, 10)), 0, wide, api.OK},
		{"two of one image", exact(wide, two...), 0, span(-17, 20), api.OK},
		{"two of one image, the other measurer", exact(wide, two...), 1, span(-20, 17), api.OK},
		{"two of one image, a third measurer", exact(wide, two...), 2, wide, api.OK},
		{"two of two images", exact(wide, look(0, 0, 10), look(1, 1, 13)), 0, wide, api.OK},
		{"an eye that is off, each time otherwise", off(4, wide, two...), 0, wide, api.OK},
		{"an eye that is off by less", off(1, wide, two...), 0, span(-19, 20), api.OK},
		{"two images tell more than one", off(1, wide, look(0, 0, 10), look(1, 0, 13), look(0, 1, 10), look(1, 1, 15)), 0, span(-17, 20), api.OK},
		{"a row of four", row(), 0, span(-200, -190), api.OK},
		{"a row of four, the last one", row(), 3, span(190, 200), api.OK},
		{"a row of four, the third one", row(), 2, span(60, 70), api.OK},
		{"a row of four, backward", backward(row()), 0, span(-200, -190), api.OK},
		{"a row of four, backward, the last one", backward(row()), 3, span(190, 200), api.OK},
		{"a turn that is off", turns(look(0, 0, 39_000), look(1, 0, 38_999)), 1, span(-200, 200), api.OK},
		{"a turn that is off to one side", turns(look(0, 0, 39_100), look(1, 0, 38_999)), 1, span(-199, 200), api.OK},
	} {
		got, e := eye.Habit(x.w, x.eye)
		same(t, x.name, got, x.want)
		same(t, x.name, e, x.e)
	}
}

// P3.1: by how much habits differ.
func TestBetween(t *testing.T) {
	wide := span(-20, 20)
	two := []api.Look{look(0, 0, 10), look(1, 0, 13)}
	for _, x := range []struct {
		name string
		w    api.Watch
		a, b int
		want api.Span
		e    api.Errno
	}{
		{"first example", example(), 0, 1, span(-22, -2), api.OK},
		{"first example, the other way round", example(), 1, 0, span(2, 22), api.OK},
		{"second example", example(), 0, 2, span(-14, 8), api.OK},
		{"example, both from another one", example(), 1, 2, span(-1, 21), api.OK},
		{"example, Habit from 0", sample(span(0, 20)), 0, 1, span(-20, -2), api.OK},
		{"sixth look", example(sixth()), 0, 1, api.Span{}, api.ErrClash},
		{"one measurer twice", example(), 2, 2, span(0, 0), api.OK},
		{"one measurer twice, no look", exact(wide), 1, 1, span(0, 0), api.OK},
		{"one measurer twice, no truth", example(sixth()), 1, 1, api.Span{}, api.ErrClash},
		{"no look", exact(wide), 0, 1, span(-40, 40), api.OK},
		{"no look, habits to one side", exact(span(-3, 8)), 0, 1, span(-11, 11), api.OK},
		{"exact", exact(wide, two...), 0, 1, span(-3, -3), api.OK},
		{"exact, the other way round", exact(wide, two...), 1, 0, span(3, 3), api.OK},
		{"one of two has no look", exact(wide, two...), 0, 2, span(-40, 37), api.OK},
		{"no image of both", exact(wide, look(0, 0, 10), look(1, 1, 13)), 0, 1, span(-40, 40), api.OK},
		{"off", off(1, wide, two...), 0, 1, span(-5, -1), api.OK},
		{"off, and narrow habits", off(1, span(-1, 1), two...), 0, 1, span(-2, -1), api.OK},
		{"two images tell more than one", off(1, wide, look(0, 0, 10), look(1, 0, 13), look(0, 1, 10), look(1, 1, 15)), 0, 1, span(-5, -3), api.OK},
		{"a row of four", row(), 0, 3, span(390, 390), api.OK},
		{"a row of four, from the last one", row(), 3, 0, span(-390, -390), api.OK},
		{"a row of four, backward", backward(row()), 0, 3, span(390, 390), api.OK},
		{"a row of four, backward, from the last one", backward(row()), 3, 0, span(-390, -390), api.OK},
	} {
		got, e := eye.Between(x.w, x.a, x.b)
		same(t, x.name, got, x.want)
		same(t, x.name, e, x.e)
	}
}

// P3.2: where images stand.
func TestPlace(t *testing.T) {
	wide := span(-20, 20)
	two := []api.Look{look(0, 0, 110), look(1, 0, 113)}
	for _, x := range []struct {
		name  string
		w     api.Watch
		image int
		want  api.Span
		e     api.Errno
	}{
		{"example", example(), 0, span(487, 525), api.OK},
		{"example, the other image", example(), 1, span(1190, 1228), api.OK},
		{"sixth look", example(sixth()), 0, api.Span{}, api.ErrClash},
		{"no look", exact(wide, two...), 1, api.Span{}, api.ErrDoubt},
		{"no look at all", exact(wide), 0, api.Span{}, api.ErrDoubt},
		{"no truth, and no look", exact(span(0, 2), two...), 1, api.Span{}, api.ErrClash},
		{"one look", exact(wide, look(3, 2, 1500)), 2, span(1480, 1520), api.OK},
		{"one look, habits to one side", exact(span(-3, 8), look(3, 2, 1500)), 2, span(1497, 1508), api.OK},
		{"one look, no habit", exact(span(0, 0), look(3, 2, 1500)), 2, span(1500, 1500), api.OK},
		{"0, no habit", exact(span(0, 0), look(3, 2, 0)), 2, span(0, 0), api.OK},
		{"below 0", exact(wide, look(0, 3, 5)), 3, span(-15, 25), api.OK},
		{"two looks", exact(wide, two...), 0, span(93, 130), api.OK},
		{"two looks, off", off(1, wide, two...), 0, span(92, 131), api.OK},
		{"one measurer twice", off(2, span(0, 0), look(0, 0, 110), look(0, 0, 113)), 0, span(111, 112), api.OK},
		{"the habit is told by another image", exact(wide, look(0, 0, 110), look(1, 0, 150), look(1, 1, 500)), 1, span(480, 480), api.OK},
		{"a row of four", row(), 3, span(500, 510), api.OK},
		{"a row of four, backward", backward(row()), 3, span(500, 510), api.OK},
		{"the last reading of 40 turns", turns(look(0, 0, 39_999)), 0, span(39_699, 40_249), api.OK},
	} {
		got, e := eye.Place(x.w, x.image)
		same(t, x.name, got, x.want)
		same(t, x.name, e, x.e)
	}
}

// P3.3 to P3.5: who surely has a habit; the looks that clash, and are to be dropped; whose habits explain all.
func TestSets(t *testing.T) {
	wide, none := span(-20, 20), span(0, 0)
	one := []api.Look{look(0, 0, 110), look(1, 0, 113)}
	chain := []api.Look{look(0, 0, 10), look(1, 0, 14), look(1, 2, 50), look(2, 2, 54)}
	middle := []api.Look{look(0, 0, 10), look(1, 0, 14), look(1, 2, 50), look(2, 2, 46)}
	pairs := []api.Look{look(0, 0, 10), look(1, 0, 13), look(2, 1, 10), look(3, 1, 13)}
	ring := []api.Look{look(0, 0, 110), look(1, 0, 110), look(1, 1, 120), look(2, 1, 120), look(2, 2, 130), look(3, 2, 130), look(3, 3, 140), look(0, 3, 141)}
	for _, x := range []struct {
		name                       string
		w                          api.Watch
		sure, clash, drop, explain int
		e                          api.Errno
	}{
		{"example", example(), 0, 0, 0, 1, api.OK},
		{"sixth look", example(sixth()), 0, 1 | 32, 32, 0, api.ErrClash},
		{"example, Habit from 0", sample(span(0, 20)), 1, 0, 0, 1, api.OK},
		{"example, Habit to 0", sample(span(-20, 0)), 2, 0, 0, 2, api.OK},
		{"no look", exact(wide), 0, 0, 0, 0, api.OK},
		{"no look, no habit", exact(none), 0, 0, 0, 0, api.OK},
		{"one look", exact(wide, look(2, 1, 77)), 0, 0, 0, 0, api.OK},
		{"one image, two readings: either of both", exact(wide, one...), 0, 0, 0, 1, api.OK},
		{"either of both, the first one too little", exact(span(-2, 20), one...), 1, 0, 0, 1, api.OK},
		{"either of both, the second one too little", exact(span(-20, 2), one...), 2, 0, 0, 2, api.OK},
		{"both of them, if each alone is too little", exact(span(-2, 2), one...), 3, 0, 0, 3, api.OK},
		{"and both together are too little", exact(span(-1, 1), one...), 0, 3, 1, 0, api.ErrClash},
		{"an eye that is off explains it", off(2, wide, one...), 0, 0, 0, 0, api.OK},
		{"an eye that is off by too little", off(1, wide, one...), 0, 0, 0, 1, api.OK},
		{"one measurer twice", exact(wide, look(0, 0, 10), look(0, 0, 11)), 0, 3, 1, 0, api.ErrClash},
		{"one measurer twice, two images", exact(wide, look(0, 0, 10), look(0, 1, 11)), 0, 0, 0, 0, api.OK},
		{"the first and the last one, narrow", exact(span(-5, 5), chain...), 5, 0, 0, 5, api.OK},
		{"any two of three", exact(span(-9, 9), chain...), 0, 0, 0, 3, api.OK},
		{"the one in the middle", exact(span(-9, 9), middle...), 0, 0, 0, 2, api.OK},
		{"one of each pair", exact(wide, pairs...), 0, 0, 0, 1 | 4, api.OK},
		{"habits of all", exact(span(-2, 2), pairs...), 15, 0, 0, 15, api.OK},
		{"three of one image, the last one otherwise", exact(wide, look(0, 0, 10), look(1, 0, 10), look(3, 0, 13)), 0, 0, 0, 8, api.OK},
		{"a row of four", row(), 15, 0, 0, 15, api.OK},
		{"a ring of eight", exact(wide, ring...), 0, 255, 1, 0, api.ErrClash},
		{"a ring of eight, off by just enough", off(1, wide, ring...), 0, 0, 0, 0, api.OK},
		{"the least numbers of several", exact(none, look(0, 0, 1), look(0, 0, 2), look(0, 0, 3), look(0, 0, 2)), 0, 3, 5, 0, api.ErrClash},
		{"the fewest, not the least number", exact(wide, look(0, 0, 10), look(1, 0, 10), look(0, 1, 20), look(1, 1, 21), look(2, 3, 7), look(2, 3, 8)), 0, 16 | 32, 1 | 16, 0, api.ErrClash},
		{"four by two images", exact(wide, look(0, 0, 10), look(1, 0, 10), look(0, 1, 20), look(1, 1, 21), look(0, 2, 30), look(1, 2, 31)), 0, 15, 1, 0, api.ErrClash},
		{"11 of 12 must be wrong", apart(12), 0, 3, 2047, 0, api.ErrClash},
	} {
		got, e := eye.Sure(x.w)
		same(t, "Sure, "+x.name, got, x.sure)
		same(t, "Sure, "+x.name, e, x.e)
		got, e = eye.Clash(x.w)
		same(t, "Clash, "+x.name, got, x.clash)
		same(t, "Clash, "+x.name, e, api.OK)
		got, e = eye.Drop(x.w)
		same(t, "Drop, "+x.name, got, x.drop)
		same(t, "Drop, "+x.name, e, api.OK)
		got, e = eye.Explain(x.w)
		same(t, "Explain, "+x.name, got, x.explain)
		same(t, "Explain, "+x.name, e, x.e)
	}
}

// apart is a watch of n looks of one measurer at one image, of which no two can be right.
func apart(n int) api.Watch {
	w := exact(span(-20, 20))
	for i := range n {
		w.Looks = append(w.Looks, look(0, 0, i))
	}
	return w
}
