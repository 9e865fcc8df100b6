package orbit

import "math/bits"

// body is a set of images, by bits.
type body int

// only returns the set of one image.
func only(image int) body {
	return 1 << image
}

// first returns the least image of a set that has some.
func (b body) first() int {
	return bits.TrailingZeros(uint(b))
}

// images yields the images of a set, the least one first.
func (b body) images(yield func(image int) bool) {
	for left := b; left != 0; left &= left - 1 {
		if !yield(left.first()) {
			return
		}
	}
}

// isIn returns whether all images of a set are in another one.
func (b body) isIn(other body) bool {
	return b&^other == 0
}

// isStray returns whether a body was seen but once.
func (b body) isStray() bool {
	return b == only(b.first())
}
