package screw

import "zoneworks/api"

// The points between which there are bounds: the zero of the screw, the sum, and the place of each image.
const (
	zero = iota
	sum
	firstPlace
	points = firstPlace + api.ScrewImages
)

// far is no bound: more than all bounds of a measure together.
const far = 1 << 30

// placeOf returns the point of the place of an image.
func placeOf(image int) int {
	return firstPlace + image
}

// bounds is by how much the second point, at most, is greater than the first one.
type bounds [points][points]int

// open returns the bounds of points of which nothing is known.
func open() bounds {
	var b bounds
	for from := range points {
		for to := range points {
			if from != to {
				b[from][to] = far
			}
		}
	}
	return b
}

// narrow lets bounds know by how much a point is greater than another one.
func (b *bounds) narrow(from, to int, by ends[int]) {
	b[from][to] = min(b[from][to], by.hi)
	b[to][from] = min(b[to][from], -by.lo)
}

// between returns by how much a point is greater than another one.
func (b *bounds) between(from, to int) ends[int] {
	return ends[int]{-b[to][from], b[from][to]}
}

// shorten makes bounds as short as all of them together do, and returns whether they leave a truth. All of them are
// differences of two points, so that then both ends of each are reached, by integers.
func (b *bounds) shorten() bool {
	shorter := func(from, by, to int) {
		if b[from][by] != far && b[by][to] != far {
			b[from][to] = min(b[from][to], b[from][by]+b[by][to])
		}
	}
	for by := range points {
		for from := range points {
			for to := range points {
				shorter(from, by, to)
			}
		}
		// Without a truth, bounds would go on to shorten each other beyond all measure.
		if b.contradict() {
			return false
		}
	}
	return true
}

// contradict returns whether a point would have to be less than itself.
func (b *bounds) contradict() bool {
	for i := range points {
		if b[i][i] < 0 {
			return true
		}
	}
	return false
}
