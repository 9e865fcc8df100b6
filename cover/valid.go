package cover

import "zoneworks/api"

// valid returns whether a field is valid.
func valid(f api.Field) bool {
	if len(f.Plates) > api.CoverPlates {
		return false
	}
	for _, p := range f.Plates {
		if !validPlate(p) {
			return false
		}
	}
	return isWithin(f.East, api.CoverSide) && isWithin(f.North, api.CoverSide) && isWithin(f.Days, api.MaxDay) &&
		isFrom(f.Depth, 0, api.CoverDepth) && isFrom(f.Times, 1, api.CoverTimes) && isFrom(f.Gap, 0, api.MaxDay)
}

// validPlate returns whether a plate can be one of a field.
func validPlate(p api.Sky) bool {
	return isWithin(p.East, api.CoverSide) && isWithin(p.North, api.CoverSide) &&
		isFrom(p.Day, 0, api.MaxDay) && isFrom(p.Depth, 0, api.CoverDepth)
}

// isWithin returns whether a span is valid, and has no number below 0 or above the most.
func isWithin(s api.Span, most int) bool {
	return 0 <= s.Lo && s.Lo <= s.Hi && s.Hi <= most
}

// isFrom returns whether a number is from the least to the most.
func isFrom(n, least, most int) bool {
	return least <= n && n <= most
}
