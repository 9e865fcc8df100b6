package eye

import "zoneworks/api"

// one is one of all between which there are bounds.
type one interface {
	// number returns which number it has among all.
	number() int
}

// zero is the zero from which habits and places are counted.
type zero struct{}

// habitOf is the habit of the measurer of that number.
type habitOf int

// placeOf is the place of the image of that number.
type placeOf int

const (
	firstHabit = 1
	firstPlace = firstHabit + api.EyeMany
	numbers    = firstPlace + api.ScrewImages
)

func (zero) number() int { return 0 }

func (h habitOf) number() int { return firstHabit + int(h) }

func (p placeOf) number() int { return firstPlace + int(p) }

// tie is by how much one is greater than another one, as a habit or a look tells.
type tie struct {
	from, to one
	by       api.Span
}

// bounds is by how much each number is greater than that of one of them; of one that is not there nothing is known.
type bounds map[int]api.Span

// of returns the bounds of one; it refuses one of which nothing is known.
func (b bounds) of(x one) api.Span {
	s, ok := b[x.number()]
	insist(ok, api.ErrDoubt)
	return s
}

// over narrows the bounds of all numbers over that of a base until nothing changes, and returns whether this leaves a
// truth. All ties are differences of two numbers, so that then both ends of each bound are reached, by integers.
func over(base one, ties []tie) (bounds, bool) {
	b := bounds{base.number(): {}}
	changed, empty := false, false
	narrow := func(from, to int, by api.Span) {
		start, ok := b[from]
		if !ok {
			return
		}
		told := add(start, by)
		old, known := b[to]
		if known {
			told = join(told, old)
		}
		if !known || told != old {
			b[to] = told
			changed = true
			empty = empty || told.Lo > told.Hi
		}
	}
	// A way by ties tells something if it comes to no number twice; so what still changes then contradicts itself.
	for range numbers {
		changed = false
		for _, t := range ties {
			from, to := t.from.number(), t.to.number()
			narrow(from, to, t.by)
			narrow(to, from, turn(t.by))
			if empty {
				return nil, false
			}
		}
		if !changed {
			return b, true
		}
	}
	return nil, false
}
