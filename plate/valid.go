package plate

import (
	"cmp"

	"zoneworks/api"
)

// rising returns whether each of several things is at most the next one.
func rising[T cmp.Ordered](things ...T) bool {
	for i := 1; i < len(things); i++ {
		if things[i] < things[i-1] {
			return false
		}
	}
	return true
}

// valid returns whether a plate is.
func valid(p api.Plate) bool {
	if !rising(1, p.Scale.Lo, p.Scale.Hi, api.PlateScale) || len(p.Stars) > api.PlateStars {
		return false
	}
	for _, s := range p.Stars {
		if !isSide(s.X) || !isSide(s.Y) {
			return false
		}
		if s.Known && !(isSky(s.East) && isSky(s.North)) {
			return false
		}
	}
	return true
}

// isSide returns whether a span is valid, and on a plate.
func isSide(s api.Span) bool {
	return rising(0, s.Lo, s.Hi, api.PlateSide)
}

// isSky returns whether a span is valid, and in the sky.
func isSky(s api.Span) bool {
	return rising(-api.PlateSky, s.Lo, s.Hi, api.PlateSky)
}
