package turn

import "zoneworks/api"

// proves returns whether the plates of a set prove that another one is false.
func (l look) proves(others set, plate int) bool {
	return l.can(others) && !l.can(others.with(only(plate)))
}

// proof returns the fewest plates that prove that a plate is false; it refuses one of which none do.
func (l look) proof(plate int) set {
	others, is := first(l.all().without(only(plate)).parts, func(others set) bool { return l.proves(others, plate) })
	insist(is, api.ErrNone)
	return others
}

// isRest returns whether all plates but those of a set can be right.
func (l look) isRest(plates set) bool {
	return l.can(l.all().without(plates))
}

// wrong returns the fewest plates without which all others can be right; of a pile that has a truth there are some.
func (l look) wrong() set {
	plates, _ := first(l.all().parts, l.isRest)
	return plates
}

// surely returns the plates that all, and some, of the sets have that are as small as wrong, and without which all others
// can be right.
func (l look) surely() (all, some set) {
	fewest := l.wrong().size()
	all = l.all()
	for plates := range l.all().parts {
		if plates.size() == fewest && l.isRest(plates) {
			all, some = all&plates, some.with(plates)
		}
	}
	return all, some
}
