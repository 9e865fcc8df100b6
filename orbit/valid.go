package orbit

import "zoneworks/api"

// valid returns whether a search is valid.
func valid(s api.Search) bool {
	if !isWithin(s.Speed, api.OrbitSpeed) || len(s.Nights) > api.OrbitNights || s.Strays < 0 || s.Strays > api.OrbitImages {
		return false
	}
	images, before := 0, -1
	for _, night := range s.Nights {
		if !isDay(night.Day) || night.Day <= before {
			return false
		}
		before = night.Day
		images += len(night.Spots)
		if images > api.OrbitImages || !validSpots(night.Spots) {
			return false
		}
	}
	return true
}

// validSpots returns whether all images of a night are valid.
func validSpots(spots []api.OrbitSpot) bool {
	for _, s := range spots {
		if !isWithin(s.East, api.OrbitSky) || !isWithin(s.North, api.OrbitSky) {
			return false
		}
	}
	return true
}

// isWithin returns whether a span is valid, and goes no farther than so far to either side of zero.
func isWithin(s api.Span, far int) bool {
	return -far <= s.Lo && s.Lo <= s.Hi && s.Hi <= far
}

// isDay returns whether a number is a day.
func isDay(day int) bool {
	return 0 <= day && day <= api.MaxDay
}
