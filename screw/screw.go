// Package screw is layer 1: what a screw tells, in both positions of a plate (shared/doc/01-screw.md).
package screw

import "zoneworks/api"

// Travel returns the travels of a reading.
func Travel(s api.Screw, reading int) (api.Span, api.Errno) {
	return answer(func() api.Span {
		insist(valid(s), api.ErrArg)
		insist(hasTurn(s, reading), api.ErrRange)
		return span(travel(s, reading))
	})
}

// Sum returns what both places of an image are together.
func Sum(m api.Measure) (api.Span, api.Errno) {
	return answer(func() api.Span {
		truths := lookAt(m).truths()
		return span(truths.between(zero, sum))
	})
}

// Place returns where an image stands.
func Place(m api.Measure, image int) (api.Span, api.Errno) {
	return answer(func() api.Span {
		l := lookAt(m)
		l.insistImage(image)
		truths := l.truths()
		insist(l.isSet(image), api.ErrDoubt)
		return span(truths.between(zero, placeOf(image)))
	})
}

// Apart returns how far apart images are: by how much the place of b is greater than that of a.
func Apart(m api.Measure, a, b int) (api.Span, api.Errno) {
	return answer(func() api.Span {
		l := lookAt(m)
		l.insistImage(a)
		l.insistImage(b)
		truths := l.truths()
		insist(a == b || l.isSet(a) && l.isSet(b), api.ErrDoubt)
		return span(truths.between(placeOf(a), placeOf(b)))
	})
}

// Clash returns the fewest settings that cannot all be right.
func Clash(m api.Measure) (settings int, e api.Errno) {
	return answer(func() int {
		l := lookAt(m)
		if l.can(l.all()) {
			return 0
		}
		return first(len(l.tells), func(set int) bool { return !l.can(set) })
	})
}

// Drop returns the fewest settings without which the others can be right.
func Drop(m api.Measure) (settings int, e api.Errno) {
	return answer(func() int {
		l := lookAt(m)
		return first(len(l.tells), func(set int) bool { return l.can(l.all() &^ set) })
	})
}

// Idle returns the settings that tell nothing: the others tell it, too.
func Idle(m api.Measure) (settings int, e api.Errno) {
	return answer(func() int {
		l := lookAt(m)
		l.truths()
		idle := 0
		for i, t := range l.tells {
			alone := 1 << i
			others, _ := l.bounds(l.all() &^ alone)
			from, to, by := t.told()
			if by.hold(others.between(from, to)) {
				idle |= alone
			}
		}
		return idle
	})
}

// Once returns the images that were measured in one position alone.
func Once(m api.Measure) (images int, e api.Errno) {
	return answer(func() int {
		l := lookAt(m)
		once := 0
		for image := range l.Images {
			if c := l.counts[image]; (c.upright == 0) != (c.reversed == 0) {
				once |= 1 << image
			}
		}
		return once
	})
}
