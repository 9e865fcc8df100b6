package plate

import (
	"iter"
	"maps"

	"zoneworks/api"
)

// look is a plate that is looked at along both of its directions.
type look struct {
	api.Plate
	sides [directions]side
}

// lookAt looks at a plate; it refuses one that is not valid.
func lookAt(p api.Plate) look {
	insist(valid(p), api.ErrArg)
	return look{p, sidesOf(p)}
}

// insistStar refuses what is no number of a star.
func (l look) insistStar(star int) {
	insist(0 <= star && star < len(l.Stars), api.ErrRange)
}

// insistKnown refuses a plate of which no star is known.
func (l look) insistKnown() {
	insist(l.known() != 0, api.ErrDoubt)
}

// known returns the set of the known stars.
func (l look) known() set {
	var known set
	for n, s := range l.Stars {
		if s.Known {
			known |= 1 << n
		}
	}
	return known
}

// corners returns where the corner can be with a scale if the stars of a set are right, and whether there is such a place.
func (l look) corners(scale int, right set) (both, bool) {
	corners := both{anywhere(), anywhere()}
stars:
	for star := range l.Stars {
		if !right.has(star) {
			continue stars
		}
		for i, d := range l.sides {
			corners[i] = join(corners[i], d.cornerBy(scale, star))
			if !rising(corners[i].Lo, corners[i].Hi) {
				return both{}, false
			}
		}
	}
	return corners, true
}

// scales yields each scale that there can be if the stars of a set are right, and where the corner can be with it.
func (l look) scales(right set) iter.Seq2[int, both] {
	return func(yield func(int, both) bool) {
		for scale := l.Scale.Lo; scale <= l.Scale.Hi; scale++ {
			if corners, ok := l.corners(scale, right); ok && !yield(scale, corners) {
				return
			}
		}
	}
}

// can returns whether the stars of a set can all be right.
func (l look) can(right set) bool {
	for range l.scales(right) {
		return true
	}
	return false
}

// truths is all truths of a plate: where the corner can be, by the scales that there can be.
type truths struct {
	sides   [directions]side
	corners map[int]both
}

// truths returns all truths; it refuses a plate that has none.
func (l look) truths() truths {
	corners := maps.Collect(l.scales(l.known()))
	insist(len(corners) > 0, api.ErrClash)
	return truths{l.sides, corners}
}

// each keeps what is asked of a direction, of all scales. In which order they come makes no difference to what is kept.
func (t truths) each(direction int, asked func(v view) api.Span, keep func(least, most int)) {
	for scale, corners := range t.corners {
		told := asked(view{t.sides[direction], scale, corners[direction]})
		keep(told.Lo, told.Hi)
	}
}

// along returns, for each direction, the span from the least to the greatest of what is asked; it refuses if there is none.
func (t truths) along(asked func(v view) api.Span) both {
	var told both
	for direction := range told {
		var k kept[int]
		t.each(direction, asked, k.keep)
		insist(k.there, api.ErrNone)
		told[direction] = api.Span{Lo: k.least, Hi: k.most}
	}
	return told
}

// scale returns the span from the least to the greatest scale.
func (t truths) scale() api.Span {
	told := t.along(func(v view) api.Span { return only(v.scale) })
	return told[0]
}
