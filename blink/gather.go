package blink

import "zoneworks/api"

// gatherer gathers something of joinings.
type gatherer interface {
	// take takes a joining.
	take(j joining)
	// taken returns how many joinings were taken.
	taken() int
}

// gather hands all joinings to a gatherer.
func (f field) gather(g gatherer) {
	for j := range f.joinings(f.Gone) {
		g.take(j)
	}
}

// gatherSome hands all joinings to a gatherer; it refuses a blink that has none.
func (f field) gatherSome(g gatherer) {
	f.gather(g)
	insist(g.taken() > 0, api.ErrRefuse)
}

// tally gathers how many joinings there are.
type tally struct{ joinings int }

func (t *tally) take(joining) {
	t.joinings++
}

func (t *tally) taken() int {
	return t.joinings
}

// changed gathers which stars of First changed: in each joining, and in some.
type changed struct {
	tally
	// of is what stars can be, did what they can be if they changed, and didNot if they did not.
	of          table
	did, didNot int
	surely, can set
}

func (c *changed) take(j joining) {
	var surely set
	for first, second := range j.pairs {
		if c.of[first][second]&c.did == 0 {
			continue
		}
		c.can |= only(first)
		if c.of[first][second]&c.didNot == 0 {
			surely |= only(first)
		}
	}
	c.surely &= surely
	c.tally.take(j)
}

// alone gathers the stars that are in no pair.
type alone struct {
	tally
	first, second set
}

func (a *alone) take(j joining) {
	for first, second := range j.pairs {
		a.first &^= only(first)
		a.second &^= only(second)
	}
	a.tally.take(j)
}
