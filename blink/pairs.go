package blink

import "zoneworks/api"

// differences is by how much two numbers can differ, from the least to the greatest difference.
type differences api.Span

// differencesOf returns by how much a number of one span and one of another span can differ.
func differencesOf(a, b api.Span) differences {
	return differences{Lo: max(0, a.Lo-b.Hi, b.Lo-a.Hi), Hi: max(a.Hi-b.Lo, b.Hi-a.Lo)}
}

// some returns whether one of the differences is from the least to the most. There is none if the most is less.
func (d differences) some(least, most int) bool {
	return max(d.Lo, least) <= min(d.Hi, most)
}

// pair is two stars, one of each sheet of a blink, and by how much they can differ.
type pair struct {
	api.Blink
	x, y, size differences
}

// pair returns a star of First and one of Second, together.
func (l look) pair(first, second star) pair {
	return pair{l.Blink, differencesOf(first.x, second.x), differencesOf(first.y, second.y), differencesOf(first.size, second.size)}
}

// bound is how great some of the differences must be, at most, if two stars are one body.
type bound struct {
	some func(least, most int) bool
	most int
}

// bounds returns all bounds of a pair.
func (p pair) bounds() []bound {
	return []bound{{p.x.some, p.Move}, {p.y.some, p.Move}, {p.size.some, p.Vary}}
}

func (p pair) stoodStill() bool {
	return p.x.some(0, p.Still) && p.y.some(0, p.Still)
}

func (p pair) moved() bool {
	return p.x.some(p.Still+1, p.Move) || p.y.some(p.Still+1, p.Move)
}

func (p pair) isAsLarge() bool {
	return p.size.some(0, p.Same)
}

func (p pair) varied() bool {
	return p.size.some(p.Same+1, p.Vary)
}

// question is what a pair that can be one body is asked: whether it can have done something, and the bit that says so.
type question struct {
	can func(p pair) bool
	bit int
}

// questions returns all that a pair is asked.
func questions() []question {
	return []question{
		{pair.stoodStill, api.BlinkStill},
		{pair.moved, api.BlinkMoved},
		{pair.isAsLarge, api.BlinkEqual},
		{pair.varied, api.BlinkVaried},
	}
}

// bits returns the bits of all that a pair can have done, of what it is asked.
func (p pair) bits(asked ...question) int {
	bits := 0
	for _, q := range asked {
		if q.can(p) {
			bits |= q.bit
		}
	}
	return bits
}

// table is what each star of First can be together with each one of Second, or 0 if they cannot be one body.
type table [api.ImageSpots][api.ImageSpots]int

// table returns what stars of First that have some trails can be together with stars of Second.
func (l look) table(firsts, seconds []api.Trail) table {
	var can table
	others := starsOf(l.Second, seconds)
	for f, first := range starsOf(l.First, firsts) {
	stars:
		for s, second := range others {
			p := l.pair(first, second)
			for _, b := range p.bounds() {
				if !b.some(0, b.most) {
					continue stars
				}
			}
			can[f][s] = p.bits(questions()...)
		}
	}
	return can
}
