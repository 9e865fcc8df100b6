package image

import "zoneworks/api"

// look is a valid sheet that is looked at.
type look struct{ api.Sheet }

// answer returns what is asked of a sheet, or ErrArg unless it is valid.
func answer[T any](s api.Sheet, ask func(l look) (T, api.Errno)) (told T, e api.Errno) {
	defer func() {
		// No sheet is known with which something panics, but no panic may get out: it could only come of an argument.
		if recover() != nil {
			var zero T
			told, e = zero, api.ErrArg
		}
	}()
	if !valid(s) {
		return told, api.ErrArg
	}
	return ask(look{s})
}

// isImage returns whether there is an image of that number.
func (l look) isImage(image int) bool {
	return 0 <= image && image < len(l.Spots)
}

// isTrail returns whether a trail has images of the sheet, or NoSpot but for the first one, and none of them twice.
func (l look) isTrail(t api.Trail) bool {
	seen := 0
	for _, image := range t {
		if l.isImage(image) {
			seen++
		} else if image != api.NoSpot {
			return false
		}
	}
	return t[0] != api.NoSpot && imagesOf(t).size() == seen
}

// all returns the set of all images.
func (l look) all() set {
	return 1<<len(l.Spots) - 1
}

// flaws returns how many flaws there are if just the images of a set are of stars.
func (l look) flaws(stars set) int {
	return len(l.Spots) - stars.size()
}
