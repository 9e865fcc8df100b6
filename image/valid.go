package image

import "zoneworks/api"

// valid returns whether a sheet is.
func valid(s api.Sheet) bool {
	sizes := ends[int]{0, api.ImageSize}
	flaws := ends[int]{0, api.ImageSpots}
	if !validSteps(s) || !sizes.has(s.Limit) || !flaws.has(s.Flaws) || len(s.Spots) > api.ImageSpots {
		return false
	}
	for _, fade := range s.Fades {
		if !sizes.hold(known(fade)) {
			return false
		}
	}
	places := ends[int]{0, api.ImagePlace}
	for _, spot := range s.Spots {
		if !places.hold(known(spot.X)) || !places.hold(known(spot.Y)) || !sizes.hold(known(spot.Size)) {
			return false
		}
	}
	return true
}

// validSteps returns whether the steps of a sheet are valid.
func validSteps(s api.Sheet) bool {
	steps := ends[int]{-api.ImagePlace, api.ImagePlace}
	for _, step := range s.Steps {
		if !steps.hold(known(step.X)) || !steps.hold(known(step.Y)) {
			return false
		}
	}
	return true
}
