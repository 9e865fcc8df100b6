package orbit

import (
	"slices"

	"zoneworks/api"
)

// gatherer gathers something of joinings.
type gatherer interface {
	// take takes a joining, which is not kept.
	take(j joining)
	// taken returns how many joinings were taken.
	taken() int
}

// gather hands all joinings to a gatherer.
func (k sky) gather(g gatherer) {
	k.joinings(g.take)
}

// gatherSome hands all joinings to a gatherer; it refuses a search that has none.
func (k sky) gatherSome(g gatherer) {
	k.gather(g)
	insist(g.taken() > 0, api.ErrClash)
}

// tally gathers how many joinings there are.
type tally struct{ joinings int }

func (t *tally) take(joining) {
	t.joinings++
}

func (t *tally) taken() int {
	return t.joinings
}

// together gathers in how many joinings two images are of one body.
type together struct {
	tally
	pair body
	in   int
}

func (t *together) take(j joining) {
	if slices.ContainsFunc(j, t.pair.isIn) {
		t.in++
	}
	t.tally.take(j)
}

// told returns whether the images are of one body.
func (t *together) told() int {
	switch t.in {
	case 0:
		return api.OrbitNever
	case t.taken():
		return api.OrbitAlways
	}
	return api.OrbitPerhaps
}

// lost gathers which images are strays: in each joining, and in some. Before the first one surely is all of them.
type lost struct {
	tally
	surely, can body
}

func (l *lost) take(j joining) {
	var strays body
	for _, b := range j {
		if b.isStray() {
			strays |= b
		}
	}
	l.surely &= strays
	l.can |= strays
	l.tally.take(j)
}

// simplest gathers the joining with the fewest bodies.
type simplest struct {
	tally
	bodies joining
}

func (s *simplest) take(j joining) {
	simpler := j
	if s.taken() > 0 {
		simpler = least(bySimplicity, s.bodies, j)
	}
	s.bodies = slices.Clone(simpler)
	s.tally.take(j)
}

// sure gathers the bodies that all joinings have.
type sure struct {
	tally
	bodies joining
}

func (s *sure) take(j joining) {
	if s.taken() == 0 {
		s.bodies = slices.Clone(j)
	}
	s.bodies = slices.DeleteFunc(s.bodies, func(b body) bool { return !slices.Contains(j, b) })
	s.tally.take(j)
}
