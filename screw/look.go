package screw

import "zoneworks/api"

// tell is what a setting tells.
type tell interface {
	// told returns between which points it is, and by how much the second one is greater than the first one.
	told() (from, to int, by ends[int])
}

// upright is a setting on a plate as it lay first: its travel is the place of the image.
type upright struct {
	image  int
	travel ends[int]
}

func (u upright) told() (from, to int, by ends[int]) {
	return zero, placeOf(u.image), u.travel
}

// reversed is a setting on a plate that was turned round: its travel is by how much the sum is greater than the place.
type reversed struct {
	image  int
	travel ends[int]
}

func (r reversed) told() (from, to int, by ends[int]) {
	return placeOf(r.image), sum, r.travel
}

// count is how many settings an image has, in each position of the plate.
type count struct{ upright, reversed int }

// look is a measure that is looked at: what each setting tells, and the counts of the images that have settings.
type look struct {
	api.Measure
	tells  []tell
	counts map[int]count
}

// lookAt looks at a measure; it refuses one that is not valid.
func lookAt(m api.Measure) *look {
	insist(validMeasure(m), api.ErrArg)
	l := &look{Measure: m, counts: map[int]count{}}
	for _, s := range l.Settings {
		l.add(s)
	}
	return l
}

// add adds what a setting tells.
func (l *look) add(s api.Setting) {
	c := l.counts[s.Image]
	by := travel(l.Screw, s.Reading)
	if s.Reversed {
		c.reversed++
		l.tells = append(l.tells, reversed{s.Image, by})
	} else {
		c.upright++
		l.tells = append(l.tells, upright{s.Image, by})
	}
	l.counts[s.Image] = c
}

// insistImage refuses what is no number of an image.
func (l *look) insistImage(image int) {
	insist(isImage(l.Measure, image), api.ErrRange)
}

// isSet returns whether an image has a setting.
func (l *look) isSet(image int) bool {
	_, ok := l.counts[image]
	return ok
}

// all returns the set of all settings.
func (l *look) all() int {
	return 1<<len(l.tells) - 1
}

// bounds returns what the settings of a set tell, and whether it leaves a truth.
func (l *look) bounds(set int) (bounds, bool) {
	b := open()
	b.narrow(zero, sum, known(l.Sum))
	for i, t := range l.tells {
		if set&(1<<i) != 0 {
			b.narrow(t.told())
		}
	}
	ok := b.shorten()
	return b, ok
}

// can returns whether the settings of a set can all be right.
func (l *look) can(set int) bool {
	_, ok := l.bounds(set)
	return ok
}

// truths returns the bounds of all truths; it refuses a measure that has none.
func (l *look) truths() bounds {
	b, ok := l.bounds(l.all())
	insist(ok, api.ErrClash)
	return b
}
