package eye

import (
	"zoneworks/api"
	"zoneworks/screw"
)

// valid returns whether a watch is. A screw that is valid says something of the reading 0.
func valid(w api.Watch) bool {
	images := api.Span{Lo: 1, Hi: api.ScrewImages}
	eyes := api.Span{Lo: 1, Hi: api.EyeMany}
	habits := api.Span{Lo: -api.EyeHabit, Hi: api.EyeHabit}
	if !says(w.Screw, 0) || !has(images, w.Images) || !has(eyes, w.Eyes) {
		return false
	}
	if !holds(habits, w.Habit) || !has(w.Habit, 0) || len(w.Looks) > api.EyeLooks {
		return false
	}
	for _, l := range w.Looks {
		if !isEye(w, l.Eye) || !isImage(w, l.Image) || !says(w.Screw, l.Reading) {
			return false
		}
	}
	return true
}

// says returns whether a screw says something of a reading.
func says(s api.Screw, reading int) bool {
	_, e := screw.Travel(s, reading)
	return e == api.OK
}

// isEye returns whether a watch has a measurer of that number.
func isEye(w api.Watch, eye int) bool {
	return 0 <= eye && eye < w.Eyes
}

// isImage returns whether a watch has an image of that number.
func isImage(w api.Watch, image int) bool {
	return 0 <= image && image < w.Images
}
