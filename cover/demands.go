package cover

// demand is what a place asks of plates: so many of a set, of which the days of each two differ by at least a gap.
type demand struct {
	of         set
	times, gap int
}

// demandOf returns what a place asks.
func (l look) demandOf(p place) demand {
	return demand{l.having(p), l.Times, l.Gap}
}

// meets returns whether a set of plates has what a place asks.
func (l look) meets(plates set, d demand) bool {
	count, times := counter(d.gap), 0
	for _, plate := range l.byDay {
		if plates.has(plate) && d.of.has(plate) {
			times = count(l.Plates[plate].Day)
		}
	}
	return times >= d.times
}

// counter returns a function that is told days, the earlier ones first, and returns how many of them there are, at most, of
// which each two differ by at least a gap. It counts each day that is far enough from the last one that it has counted: no
// other choice leaves more room for later days.
func counter(gap int) func(day int) int {
	many, next := 0, 0
	return func(day int) int {
		if day >= next {
			many++
			next = day + gap
		}
		return many
	}
}

// lot is some places: the first one of them, and how many they are.
type lot struct {
	first  place
	places int
}

// with returns the places of a lot and those of another one, whose first one is later.
func (l lot) with(later lot) lot {
	if l.places == 0 {
		return later
	}
	return lot{l.first, l.places + later.places}
}

// alike is all places that ask the same, and what they ask.
type alike struct {
	demand
	lot
}

// survey is a field that is looked at, and all of its places, those that ask the same together, by the first ones of them.
type survey struct {
	look
	asked []alike
}

// surveyOf asks all places of a field.
func surveyOf(l look) survey {
	s := survey{look: l}
	numbers := map[demand]int{}
	for p := range l.places {
		d := l.demandOf(p)
		n, is := numbers[d]
		if !is {
			n = len(s.asked)
			numbers[d] = n
			s.asked = append(s.asked, alike{demand: d})
		}
		s.asked[n].lot = s.asked[n].with(lot{p, 1})
	}
	return s
}
