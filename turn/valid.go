package turn

import "zoneworks/api"

// valid returns whether a pile is valid.
func valid(p api.TurnPile) bool {
	if len(p.Said) > api.TurnPlates || len(p.Gaps) > api.TurnGaps || len(p.Hands) > api.TurnHands {
		return false
	}
	for _, days := range p.Said {
		if !isWithin(days, 0) {
			return false
		}
	}
	for _, g := range p.Gaps {
		if !areTwo(p, g.First, g.Second) || !isWithin(g.By, -api.MaxDay) {
			return false
		}
	}
	for _, h := range p.Hands {
		if !areTwo(p, h.First, h.Second) {
			return false
		}
	}
	return true
}

// areTwo returns whether two numbers are those of two plates that differ.
func areTwo(p api.TurnPile, first, second int) bool {
	return isPlate(p, first) && isPlate(p, second) && first != second
}

// isPlate returns whether a pile has a plate of that number.
func isPlate(p api.TurnPile, plate int) bool {
	return 0 <= plate && plate < len(p.Said)
}

// isWithin returns whether a span is valid, and has no number that is less than the least one, or no day's.
func isWithin(s api.Span, least int) bool {
	return least <= s.Lo && s.Lo <= s.Hi && s.Hi <= api.MaxDay
}
