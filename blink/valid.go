package blink

import "zoneworks/api"

// validNumbers returns whether the numbers of a blink are valid. Whether its sheets are is for the layer of images to say.
func validNumbers(b api.Blink) bool {
	return isFrom(b.Move, 0, api.BlinkMove) && isFrom(b.Still, 0, b.Move) &&
		isFrom(b.Vary, 0, api.ImageSize) && isFrom(b.Same, 0, b.Vary) &&
		isFrom(b.Gone, 0, 2*api.ImageSpots)
}

// isFrom returns whether a number is from one to another one.
func isFrom(n, lo, hi int) bool {
	return lo <= n && n <= hi
}

// isStar returns whether there is a star of that number.
func isStar(stars []api.Trail, star int) bool {
	return 0 <= star && star < len(stars)
}
