package orbit

import (
	"iter"
	"math"

	"zoneworks/api"
)

// way is how a body can move in one direction: a motion, and all places on the day 0 from which it comes to its images.
type way struct {
	motion int
	places api.Span
}

// motions returns the span of the motion alone.
func (w way) motions() api.Span {
	return api.Span{Lo: w.motion, Hi: w.motion}
}

// placesOn returns all places on a day.
func (w way) placesOn(day int) api.Span {
	gone := w.motion * day
	return api.Span{Lo: w.places.Lo + gone, Hi: w.places.Hi + gone}
}

// direction is one of the two directions of the sky: where an image is in it.
type direction struct {
	of func(i image) api.Span
}

// directions returns both directions.
func directions() [2]direction {
	return [2]direction{
		{func(i image) api.Span { return i.East }},
		{func(i image) api.Span { return i.North }},
	}
}

// ways yields all ways in which a body can move in a direction, the least motion first.
func (l look) ways(d direction, b body) iter.Seq[way] {
	return func(yield func(way) bool) {
		for motion := l.Speed.Lo; motion <= l.Speed.Hi; motion++ {
			w := way{motion, l.places(d, b, motion)}
			if w.places.Lo <= w.places.Hi && !yield(w) {
				return
			}
		}
	}
}

// places returns all places on the day 0 from which a body comes to its images with a motion; the span is not valid if
// there are none.
func (l look) places(d direction, b body, motion int) api.Span {
	places := api.Span{Lo: math.MinInt, Hi: math.MaxInt}
	for n := range b.images {
		i := l.images[n]
		at, gone := d.of(i), motion*i.day
		places = api.Span{Lo: max(places.Lo, at.Lo-gone), Hi: min(places.Hi, at.Hi-gone)}
	}
	return places
}

// sharesNight returns whether two images of a set are of the same night.
func (l look) sharesNight(b body) bool {
	before := -1
	for n := range b.images {
		// Images are numbered night by night, so two of the same night have no other one between them.
		if l.images[n].day == before {
			return true
		}
		before = l.images[n].day
	}
	return false
}

// fits returns whether images are a body.
func (l look) fits(b body) bool {
	if l.sharesNight(b) {
		return false
	}
directions:
	for _, d := range directions() {
		for range l.ways(d, b) {
			// One way is enough, whatever others there are.
			continue directions
		}
		return false
	}
	return true
}

// told returns, for each direction, from the least to the greatest number that is said of the ways in which a body can
// move; it refuses images that are no body.
func (l look) told(b body, said func(w way) api.Span) [2]api.Span {
	insist(l.fits(b), api.ErrNone)
	var told [2]api.Span
	for n, d := range directions() {
		all := api.Span{Lo: math.MaxInt, Hi: math.MinInt}
		for w := range l.ways(d, b) {
			s := said(w)
			all = api.Span{Lo: min(all.Lo, s.Lo), Hi: max(all.Hi, s.Hi)}
		}
		told[n] = all
	}
	return told
}
