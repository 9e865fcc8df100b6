package border

import "zoneworks/api"

// valid returns whether a border is.
func valid(b api.Border) bool {
	return isWithin(b.East, -api.BorderShift, api.BorderShift) &&
		isWithin(b.North, -api.BorderShift, api.BorderShift) &&
		validStars(b.First) && validStars(b.Second)
}

// validStars returns whether the stars of a zone are valid.
func validStars(stars []api.Edge) bool {
	if len(stars) > api.BorderStars {
		return false
	}
	for _, star := range stars {
		if !isWithin(star.East, -api.BorderSky, api.BorderSky) || !isWithin(star.North, -api.BorderSky, api.BorderSky) || !isWithin(star.Bright, 0, api.BorderBright) {
			return false
		}
	}
	return true
}

// isWithin returns whether a span is valid, and within two numbers.
func isWithin(s api.Span, lo, hi int) bool {
	return lo <= s.Lo && s.Lo <= s.Hi && s.Hi <= hi
}

// isIn returns whether a number is in a span.
func isIn(n int, s api.Span) bool {
	return s.Lo <= n && n <= s.Hi
}

// isStar returns whether a zone has a star of that number.
func isStar(stars []api.Edge, star int) bool {
	return 0 <= star && star < len(stars)
}
