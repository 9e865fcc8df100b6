package orbit

import "zoneworks/api"

// image is an image of a search: the day on which it was seen, which tells its night, and where.
type image struct {
	api.OrbitSpot
	day int
}

// look is a search that is looked at, and all of its images.
type look struct {
	api.Search
	images []image
}

// lookAt looks at a search; it refuses one that is not valid.
func lookAt(s api.Search) look {
	insist(valid(s), api.ErrArg)
	l := look{Search: s}
	for _, night := range s.Nights {
		for _, spot := range night.Spots {
			l.images = append(l.images, image{spot, night.Day})
		}
	}
	return l
}

// isImage returns whether there is an image of that number.
func (l look) isImage(n int) bool {
	return 0 <= n && n < len(l.images)
}

// all returns the set of all images.
func (l look) all() body {
	return 1<<len(l.images) - 1
}

// some returns a set of images; it refuses one that has none, or others than those of the search.
func (l look) some(images int) body {
	insist(0 < images && body(images) <= l.all(), api.ErrRange)
	return body(images)
}
