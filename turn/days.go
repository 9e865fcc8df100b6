package turn

import "zoneworks/api"

// zero is, among the plates, what all days are counted from.
const zero = api.TurnPlates

// bounds tells of each two plates by how much the day of the second one is greater than that of the first one, at most.
type bounds [api.TurnPlates + 1][api.TurnPlates + 1]int

// narrowing is something that is known of days.
type narrowing interface {
	// narrow narrows bounds to what is known.
	narrow(b bounds) bounds
}

// saying is what is said of the days of a plate.
type saying struct {
	plate int
	days  api.Span
}

func (s saying) narrow(b bounds) bounds {
	return b.narrowed(zero, s.plate, s.days)
}

// gap is what two plates tell of their days.
type gap struct{ api.TurnGap }

func (g gap) narrow(b bounds) bounds {
	return b.narrowed(g.First, g.Second, g.By)
}

// anyDays returns the bounds of days of which nothing is known.
func anyDays() bounds {
	var b bounds
	for first := range b {
		for second := range b {
			if first != second && second != zero {
				b[first][second] = api.MaxDay
			}
		}
	}
	return b
}

// boundsBy returns all bounds that follow of what is known of days, and whether there are such days.
func boundsBy(known []narrowing) (bounds, bool) {
	b := anyDays()
	for _, k := range known {
		b = k.narrow(b)
	}
	b = b.chained()
	for plate := range b {
		// A way round on which a day is less than itself.
		if b[plate][plate] < 0 {
			return bounds{}, false
		}
	}
	return b, true
}

// narrowed returns bounds within which the days of two plates differ by a number of a span.
func (b bounds) narrowed(first, second int, by api.Span) bounds {
	b[first][second] = min(b[first][second], by.Hi)
	b[second][first] = min(b[second][first], -by.Lo)
	return b
}

// chained returns the bounds that follow of others over all plates between.
func (b bounds) chained() bounds {
	for between := range b {
		for first := range b {
			for second := range b {
				b[first][second] = min(b[first][second], b[first][between]+b[between][second])
			}
		}
	}
	return b
}

// days returns from the least to the greatest day of a plate, which can have each day between.
func (b bounds) days(plate int) api.Span {
	return api.Span{Lo: -b[plate][zero], Hi: b[zero][plate]}
}
