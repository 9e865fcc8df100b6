package turn

import "zoneworks/api"

// frame is, among the plates, one that was not turned over, so each plate that is right lies as it does.
const frame = api.TurnPlates

// side is how a plate lies, told by another one: whether it lies the other way round.
type side struct {
	as    int
	other bool
}

// turned returns the other side, if it is to be turned.
func (s side) turned(over bool) side {
	return side{s.as, s.other != over}
}

// sides returns of a plate how it lies, told by the same other one for all plates that tell of one another.
type sides func(plate int) side

// sidesBy returns how plates lie by what is known of each two of them, and whether they can lie so.
func sidesBy(known []api.TurnHand) (sides, bool) {
	goes := map[int]side{}
	var of sides
	of = func(plate int) side {
		next, goesOn := goes[plate]
		if !goesOn {
			return side{as: plate}
		}
		return of(next.as).turned(next.other)
	}
	for _, h := range known {
		first, second := of(h.First), of(h.Second).turned(!h.Same)
		if first.as != second.as {
			goes[first.as] = second.turned(first.other)
		} else if first != second {
			return nil, false
		}
	}
	return of, true
}

// over returns whether a plate was turned over.
func (s sides) over(plate int) int {
	straight, own := s(frame), s(plate)
	if own == straight {
		return api.TurnNever
	}
	if own == straight.turned(true) {
		return api.TurnAlways
	}
	return api.TurnPerhaps
}
