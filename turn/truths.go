package turn

import "zoneworks/api"

// truths is all truths of a kind: days and sides of plates are known apart from one another, so each of the days can go
// with each of the sides.
type truths struct {
	dated bounds
	laid  sides
}

// why returns why a plate of which days are said is false in all truths, 0 if it is right in some.
func (t truths) why(plate int, said api.Span) int {
	why, days := 0, t.dated.days(plate)
	if days.Hi < said.Lo || said.Hi < days.Lo {
		why |= api.TurnDay
	}
	if t.laid.over(plate) == api.TurnAlways {
		why |= api.TurnOver
	}
	return why
}
