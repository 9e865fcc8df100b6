package turn

import "zoneworks/api"

// look is a pile that is looked at.
type look struct{ api.TurnPile }

// lookAt looks at a pile; it refuses one that is not valid.
func lookAt(p api.TurnPile) look {
	insist(valid(p), api.ErrArg)
	return look{p}
}

// isPlate returns whether there is a plate of that number.
func (l look) isPlate(plate int) bool {
	return isPlate(l.TurnPile, plate)
}

// all returns the set of all plates.
func (l look) all() set {
	return 1<<len(l.Said) - 1
}

// some returns a set of plates; it refuses one that has others than those of the pile.
func (l look) some(plates int) set {
	insist(0 <= plates && set(plates) <= l.all(), api.ErrRange)
	return set(plates)
}

// insistTruth refuses a pile that has no truth.
func (l look) insistTruth() {
	insist(l.can(0), api.ErrClash)
}

// truths returns all truths in which the plates of a set are right, and whether there are any.
func (l look) truths(right set) (truths, bool) {
	var known []narrowing
	for _, g := range l.Gaps {
		known = append(known, gap{g})
	}
	hands := append([]api.TurnHand{}, l.Hands...)
plates:
	for plate, days := range l.Said {
		if !right.has(plate) {
			continue plates
		}
		known = append(known, saying{plate, days})
		hands = append(hands, api.TurnHand{First: frame, Second: plate, Same: true})
	}
	dated, areDays := boundsBy(known)
	laid, areSides := sidesBy(hands)
	return truths{dated, laid}, areDays && areSides
}

// can returns whether the plates of a set can be right.
func (l look) can(right set) bool {
	_, is := l.truths(right)
	return is
}

// whenRight returns all truths in which plates are right, of which a plate is asked; it refuses numbers of none, and what
// cannot be so.
func (l look) whenRight(plates, plate int) truths {
	right := l.some(plates)
	insist(l.isPlate(plate), api.ErrRange)
	l.insistTruth()
	t, is := l.truths(right)
	insist(is, api.ErrRefuse)
	return t
}
