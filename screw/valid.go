package screw

import "zoneworks/api"

// valid returns whether a screw is.
func valid(s api.Screw) bool {
	turns := ends[int]{1, api.ScrewTurns}
	off := ends[int]{-api.ScrewError, api.ScrewError}
	return turns.has(len(s.Errors)) && every(s.Errors, off.hold) && off.hold(known(s.Eye))
}

// validMeasure returns whether a measure is.
func validMeasure(m api.Measure) bool {
	images := ends[int]{1, api.ScrewImages}
	sums := ends[int]{0, api.ScrewSum}
	if !valid(m.Screw) || !images.has(m.Images) || !sums.hold(known(m.Sum)) || len(m.Settings) > api.ScrewSettings {
		return false
	}
	for _, s := range m.Settings {
		if !isImage(m, s.Image) || !hasTurn(m.Screw, s.Reading) {
			return false
		}
	}
	return true
}

// isImage returns whether a measure has an image of that number.
func isImage(m api.Measure, image int) bool {
	return 0 <= image && image < m.Images
}

// hasTurn returns whether a screw has the turn of a reading. A reading below 0 is looked at first, as / rounds it up.
func hasTurn(s api.Screw, reading int) bool {
	return reading >= 0 && reading/api.ScrewTurn < len(s.Errors)
}

// travel returns the travels of a reading whose turn the screw has.
func travel(s api.Screw, reading int) ends[int] {
	return add(ends[int]{reading, reading}, known(s.Errors[reading/api.ScrewTurn]), known(s.Eye))
}
