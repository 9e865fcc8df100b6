package image

import (
	"iter"
	"slices"

	"zoneworks/api"
)

// asked is how many numbers of a star are asked of a trail: its X, its Y, and its size.
const asked = 3

// ask is a number of a star that is asked of a trail.
type ask struct {
	// seen returns what the number is in an exposure in which the star has an image.
	seen func(spot api.Spot) ends[int]
	// unseen returns what it is in an exposure in which the star has none.
	unseen func() ends[int]
	// later returns by how much it is greater in the exposure 1 (0), or 2 (1), than in the exposure 0.
	later func(step int) ends[int]
}

// asks returns what is asked of a trail of the sheet.
func (l look) asks() []ask {
	large := ends[int]{l.Limit, far}
	small := ends[int]{-far, l.Limit - 1}
	return []ask{
		{
			seen:   func(spot api.Spot) ends[int] { return known(spot.X) },
			unseen: anything,
			later:  func(step int) ends[int] { return known(l.Steps[step].X) },
		},
		{
			seen:   func(spot api.Spot) ends[int] { return known(spot.Y) },
			unseen: anything,
			later:  func(step int) ends[int] { return known(l.Steps[step].Y) },
		},
		{
			seen:   func(spot api.Spot) ends[int] { return known(spot.Size).both(large) },
			unseen: func() ends[int] { return small },
			later:  func(step int) ends[int] { return ends[int]{}.less(known(l.Fades[step])) },
		},
	}
}

// of returns what the number is, in the exposure 0, of all stars that have the images of a trail. In each exposure it
// changes by any integer of a span, whatever it does in others, so that all integers between both ends can be.
func (a ask) of(l look, t api.Trail) ends[int] {
	can := a.seen(l.Spots[t[0]])
	for step, image := range t[1:] {
		there := a.unseen()
		if image != api.NoSpot {
			there = a.seen(l.Spots[image])
		}
		can = can.both(there.less(a.later(step)))
	}
	return can
}

// trails yields all trails of images of the sheet, whether they fit or not, in lexicographic order.
func (l look) trails() iter.Seq[api.Trail] {
	return func(yield func(api.Trail) bool) {
		var choose func(t api.Trail, exposure int) bool
		choose = func(t api.Trail, exposure int) bool {
			if exposure == len(t) {
				return yield(t)
			}
			used := imagesOf(t)
			if exposure > 0 && !choose(t, exposure+1) {
				return false
			}
			for image := range l.Spots {
				t[exposure] = image
				if !used.has(image) && !choose(t, exposure+1) {
					return false
				}
			}
			return true
		}
		choose(api.Trail{api.NoSpot, api.NoSpot, api.NoSpot}, 0)
	}
}

// fit is a trail that fits, and the X, Y and size of all stars with which it does.
type fit struct {
	trail api.Trail
	star  [asked]ends[int]
}

// fitting returns all trails that fit, in lexicographic order.
func (l look) fitting() []fit {
	var all []fit
	asks := l.asks()
trails:
	for t := range l.trails() {
		f := fit{trail: t}
		for i, a := range asks {
			f.star[i] = a.of(l, t)
			if f.star[i].none() {
				continue trails
			}
		}
		all = append(all, f)
	}
	return all
}

// fits returns whether a trail fits.
func (l look) fits(t api.Trail) bool {
	return slices.ContainsFunc(l.fitting(), func(f fit) bool { return f.trail == t })
}
