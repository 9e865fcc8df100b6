package plate

import "zoneworks/api"

// directions is how many directions there are, on the plate and in the sky: x and east, y and north.
const directions = 2

// both is a span along each direction.
type both [directions]api.Span

// side is what one direction of a plate tells; spans returns those of a star that are along it.
type side struct {
	api.Plate
	spans func(s api.Star) (on, sky api.Span)
}

// sidesOf returns both directions of a plate.
func sidesOf(p api.Plate) [directions]side {
	return [directions]side{
		{p, func(s api.Star) (on, sky api.Span) { return s.X, s.East }},
		{p, func(s api.Star) (on, sky api.Span) { return s.Y, s.North }},
	}
}

// said returns where a star is said to be in the sky: anywhere if it is not known.
func (d side) said(star int) api.Span {
	if !d.Stars[star].Known {
		return anywhere()
	}
	_, sky := d.spans(d.Stars[star])
	return sky
}

// beyond returns by how much a star is beyond the corner. It can be each number of this span, for the scale is at most
// PlateScale: from one place on the plate to the next one it grows by 1 at most.
func (d side) beyond(scale, star int) api.Span {
	on, _ := d.spans(d.Stars[star])
	return api.Span{Lo: scale * on.Lo / api.PlateScale, Hi: scale * on.Hi / api.PlateScale}
}

// cornerBy returns where the corner can be if a star is where it is said to be.
func (d side) cornerBy(scale, star int) api.Span {
	return less(d.said(star), d.beyond(scale, star))
}

// view is one direction in all truths of one scale: where the corner can be along it.
type view struct {
	side
	scale  int
	corner api.Span
}

// place returns where a star is.
func (v view) place(star int) api.Span {
	return join(v.said(star), add(v.corner, v.beyond(v.scale, star)))
}

// apart returns by how much the place of b is greater than that of a. All that is known are bounds of differences of two
// numbers, so that this one is bounded by the ways from a to b alone, over the plate or over the sky; both ends are reached.
func (v view) apart(a, b int) api.Span {
	if a == b {
		return only(0)
	}
	onPlate := less(v.beyond(v.scale, b), v.beyond(v.scale, a))
	return join(onPlate, less(v.place(b), v.place(a)))
}

// find returns where on the plate a star can stand, by where it is in the sky; a span that is not valid if nowhere.
func (v view) find(s api.Star) api.Span {
	on, sky := v.spans(s)
	by := less(sky, v.corner)
	return join(on, api.Span{Lo: v.least(by.Lo), Hi: v.least(by.Hi+1) - 1})
}

// least returns the least place on a plate, however large, at which a star is so far beyond the corner.
func (v view) least(by int) int {
	return (max(by, 0)*api.PlateScale + v.scale - 1) / v.scale
}
