package orbit

import (
	"cmp"
	"slices"
)

// joining is bodies, each image in just one of them; each body comes before those whose least image is greater.
type joining []body

// sets returns the bodies of a joining, each as a number.
func (j joining) sets() []int {
	sets := make([]int, len(j))
	for n, b := range j {
		sets[n] = int(b)
	}
	return sets
}

// sky is a search that is looked at, and the bodies that fit, in order of their numbers, by their least image.
type sky struct {
	look
	bodies map[int][]body
}

// skyOf tries all sets of images.
func skyOf(l look) sky {
	k := sky{l, map[int][]body{}}
	for b := body(1); b <= l.all(); b++ {
		if l.fits(b) {
			k.bodies[b.first()] = append(k.bodies[b.first()], b)
		}
	}
	return k
}

// joinings hands all joinings to a function, in lexicographic order. All of them are built in one memory, so who keeps a
// joining copies it before.
func (k sky) joinings(take func(j joining)) {
	var j joining
	var join func(free body, strays int)
	join = func(free body, strays int) {
		if free == 0 {
			take(j)
			return
		}
		for _, b := range k.bodies[free.first()] {
			left := strays
			if b.isStray() {
				left--
			}
			if left < 0 || !b.isIn(free) {
				continue
			}
			j = append(j, b)
			join(free&^b, left)
			j = j[:len(j)-1]
		}
	}
	join(k.all(), k.Strays)
}

// bySimplicity tells which of two joinings is simpler: the one with fewer bodies, or else the first one in lexicographic
// order.
func bySimplicity(a, b joining) int {
	return cmp.Or(cmp.Compare(len(a), len(b)), slices.Compare(a, b))
}

// least returns the first one of one thing, at least, before which no other one comes in an order.
func least[T any](order func(a, b T) int, several ...T) T {
	found := several[0]
	for _, other := range several[1:] {
		if order(other, found) < 0 {
			found = other
		}
	}
	return found
}
