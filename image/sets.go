package image

import (
	"math/bits"

	"zoneworks/api"
)

// set is some images, by bits.
type set int

// only returns the set of one image, or of none, if it is NoSpot.
func only(image int) set {
	if image == api.NoSpot {
		return 0
	}
	return 1 << image
}

// join returns the set of all images of sets.
func join(sets ...set) set {
	all := set(0)
	for _, s := range sets {
		all |= s
	}
	return all
}

// imagesOf returns the set of the images of a trail.
func imagesOf(t api.Trail) set {
	return join(only(t[0]), only(t[1]), only(t[2]))
}

// has returns whether an image is in the set.
func (s set) has(image int) bool {
	return s&only(image) != 0
}

// size returns how many images there are.
func (s set) size() int {
	return bits.OnesCount(uint(s))
}
