package border

import (
	"cmp"

	"zoneworks/api"
)

// gatherer gathers something of joinings. It takes one with shifts that are alike, in order, and returns whether it wants
// others with these, too.
type gatherer interface {
	take(with []shift, j joining) bool
}

// gather hands all joinings to a gatherer, in the order of their first shifts, when just the given stars are Sure; it
// refuses a border that has none.
func (l look) gather(g gatherer, sure sides) {
	found := false
	for _, kind := range l.kinds() {
		for j := range l.joinings(kind.same, sure) {
			found = true
			if !g.take(kind.shifts, j) {
				break
			}
		}
	}
	insist(found, api.ErrNone)
}

// possible gathers the shifts that are possible.
type possible map[shift]bool

func (p possible) take(with []shift, _ joining) bool {
	for _, s := range with {
		p[s] = true
	}
	return false
}

// reach returns the span from the least to the greatest number that the shifts have in a direction.
func (p possible) reach(to func(shift) int) api.Span {
	var all []int
	for s := range p {
		all = append(all, to(s))
	}
	falling := func(a, b int) int { return cmp.Compare(b, a) }
	return api.Span{Lo: least(cmp.Compare[int], all...), Hi: least(falling, all...)}
}

// partners gathers with which stars of Second a star of First is in a pair: in each joining, and in some.
type partners struct {
	of          int
	surely, can set
}

func (p *partners) take(_ []shift, j joining) bool {
	p.surely &= only(j[p.of])
	p.can |= only(j[p.of])
	return true
}

// alone gathers the stars that are in no pair.
type alone struct{ sides }

func (a *alone) take(_ []shift, j joining) bool {
	in := j.paired()
	a.first &^= in.first
	a.second &^= in.second
	return true
}

// best gathers the first joining with the most pairs, and the first shift that has it.
type best struct {
	with    shift
	joining joining
	pairs   int
}

func (b *best) take(with []shift, j joining) bool {
	*b = least(morePairs, *b, best{with[0], j, j.paired().first.size()})
	return true
}

// morePairs is the order of joinings by their pairs: those with more of them first.
func morePairs(a, b best) int {
	return cmp.Compare(b.pairs, a.pairs)
}

// together gathers the stars that are in pairs together, in some joining.
type together map[sides]bool

func (t together) take(_ []shift, j joining) bool {
	t.add(j.paired())
	return true
}

// add notes that stars are in pairs together; so are all parts of them.
func (t together) add(in sides) {
	if t[in] {
		return
	}
	t[in] = true
	for star := range in.first.stars {
		t.add(sides{in.first &^ only(star), in.second})
	}
	for star := range in.second.stars {
		t.add(sides{in.first, in.second &^ only(star)})
	}
}

// clash returns the fewest stars that are Sure, but in pairs together in no joining; it refuses a border that has no such
// stars.
func (l look) clash() sides {
	can := together{}
	l.gather(can, sides{})
	var clashes []sides
	for first := range l.sure().first.parts {
		for second := range l.sure().second.parts {
			if need := (sides{first, second}); !can[need] {
				clashes = append(clashes, need)
			}
		}
	}
	insist(len(clashes) > 0, api.ErrNone)
	return least(fewer, clashes...)
}
