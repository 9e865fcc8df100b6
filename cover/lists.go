package cover

import "zoneworks/api"

// isList returns whether all places are served by a set of plates.
func (s survey) isList(plates set) bool {
	for _, a := range s.asked {
		if !s.meets(plates, a.demand) {
			return false
		}
	}
	return true
}

// insistList refuses a field of which there is no list.
func (s survey) insistList() {
	insist(s.isList(s.all()), api.ErrNone)
}

// missing returns the places that are not served by a set of plates; it refuses a list.
func (s survey) missing(plates set) lot {
	var missing lot
	for _, a := range s.asked {
		if !s.meets(plates, a.demand) {
			missing = missing.with(a.lot)
		}
	}
	insist(missing.places > 0, api.ErrNone)
	return missing
}

// shortest returns the first list; it refuses a field of which there is none.
func (s survey) shortest() set {
	plates, is := first(s.all().parts, s.isList)
	insist(is, api.ErrNone)
	return plates
}

// lists returns how many lists have as few plates as the first one; it refuses a field of which there is none.
func (s survey) lists() int {
	many := 0
	for plates := range s.all().sized(s.shortest().size()) {
		if s.isList(plates) {
			many++
		}
	}
	return many
}

// needed returns the plates that all others together cannot do without; it refuses a field of which there is no list.
func (s survey) needed() set {
	s.insistList()
	var needed set
	for plate := range s.Plates {
		if !s.isList(s.all().without(only(plate))) {
			needed = needed.with(only(plate))
		}
	}
	return needed
}
