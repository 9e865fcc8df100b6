package blink

import (
	"zoneworks/api"
	"zoneworks/image"
)

// look is a blink that is looked at, and the trails of the stars of both sheets.
type look struct {
	api.Blink
	first, second []api.Trail
}

// lookAt looks at a blink; it refuses one that is not valid, or of whose sheets one has no way.
func lookAt(b api.Blink) look {
	insist(validNumbers(b), api.ErrArg)
	first, e := image.Fewest(b.First)
	second, later := image.Fewest(b.Second)
	// A sheet that is not valid comes before one that has no way, whichever of them is the first one.
	insist(e != api.ErrArg && later != api.ErrArg, api.ErrArg)
	insist(e == api.OK, e)
	insist(later == api.OK, later)
	return look{b, first, second}
}

// firstImage returns the first image of a trail.
func firstImage(t api.Trail) int { return t[0] }

// star is where a star can be, and how large.
type star struct{ x, y, size api.Span }

// starsOf returns the stars of a sheet that have trails.
func starsOf(s api.Sheet, trails []api.Trail) []star {
	return listOf(trails, func(t api.Trail) star {
		x, y, size, e := image.Where(s, firstImage(t))
		insist(e == api.OK, e)
		return star{x, y, size}
	})
}

// listOf returns what is made of each thing of a list.
func listOf[T, U any](things []T, made func(T) U) []U {
	list := make([]U, len(things))
	for n, thing := range things {
		list[n] = made(thing)
	}
	return list
}
