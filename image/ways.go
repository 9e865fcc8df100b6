package image

import (
	"maps"
	"slices"

	"zoneworks/api"
)

// tally is what is counted of all ways in which just the images of one set are of stars: how many there are, how many
// trails they have, and the first trail of the first one.
type tally struct {
	ways   int
	trails ends[int]
	first  api.Trail
}

// tallies returns the tallies of all sets of images that have a way, whatever Flaws says.
func (l look) tallies() map[set]tally {
	all := map[set]tally{0: {ways: 1}}
	// A trail only joins ways of trails that come after it, so that each way is counted once.
	for _, f := range slices.Backward(l.fitting()) {
		images := imagesOf(f.trail)
		for _, others := range slices.Collect(maps.Keys(all)) {
			if others&images != 0 {
				continue
			}
			together := join(others, images)
			now, there := all[together]
			if !there {
				now.trails = nothing()
			}
			all[together] = now.add(all[others], f.trail)
		}
	}
	return all
}

// add returns a tally to which the ways of another one are added, each with one trail more, which comes before all others.
func (t tally) add(others tally, more api.Trail) tally {
	return tally{
		ways:   t.ways + others.ways,
		trails: t.trails.either(others.trails.more(ends[int]{1, 1})),
		first:  more,
	}
}

// firstWay returns the first way in which just the images of a set are of stars. After its first trail it goes on with the
// first way of the images that are left: no trail of that one can come before, or this one would begin with it.
func firstWay(stars set, tallies map[set]tally) []api.Trail {
	var way []api.Trail
	for stars != 0 {
		t := tallies[stars].first
		way = append(way, t)
		stars &^= imagesOf(t)
	}
	return way
}

// needs returns how many flaws there are at least, of all ways.
func (l look) needs(tallies map[set]tally) int {
	needs := len(l.Spots)
	for stars := range tallies {
		needs = min(needs, l.flaws(stars))
	}
	return needs
}

// fewest returns the first way of those with the fewest flaws.
func (l look) fewest(tallies map[set]tally) []api.Trail {
	var fewest []api.Trail
	needs := l.needs(tallies)
	for stars := range tallies {
		if l.flaws(stars) > needs {
			continue
		}
		if way := firstWay(stars, tallies); fewest == nil || before(way, fewest) {
			fewest = way
		}
	}
	return fewest
}

// before returns whether a way comes before another one.
func before(a, b []api.Trail) bool {
	for i := range min(len(a), len(b)) {
		if a[i] != b[i] {
			return slices.Compare(a[i][:], b[i][:]) < 0
		}
	}
	return len(a) < len(b)
}

// ways returns the tallies of all sets that leave at most Flaws flaws.
func (l look) ways() map[set]tally {
	ways := l.tallies()
	maps.DeleteFunc(ways, func(stars set, _ tally) bool { return l.flaws(stars) > l.Flaws })
	return ways
}

// answerOfWays returns what is asked of the ways of a sheet, or ErrNone if there is none.
func answerOfWays[T any](s api.Sheet, ask func(l look, ways map[set]tally) T) (T, api.Errno) {
	return answer(s, func(l look) (told T, e api.Errno) {
		ways := l.ways()
		if len(ways) == 0 {
			return told, api.ErrNone
		}
		return ask(l, ways), api.OK
	})
}

// where returns the X, Y and size of the star of which an image is that of the exposure 0, or ErrNone if it is in no way.
func (l look) where(spot int) ([asked]api.Span, api.Errno) {
	var told [asked]api.Span
	tallies := l.tallies()
	star, found := [asked]ends[int]{nothing(), nothing(), nothing()}, false
	for _, f := range l.fitting() {
		if f.trail[0] != spot || !l.isInWay(f.trail, tallies) {
			continue
		}
		found = true
		for i := range star {
			star[i] = star[i].either(f.star[i])
		}
	}
	if !found {
		return told, api.ErrNone
	}
	for i, s := range star {
		told[i] = s.span()
	}
	return told, api.OK
}

// isInWay returns whether a trail is in a way: with a way of other images it leaves at most Flaws flaws.
func (l look) isInWay(t api.Trail, tallies map[set]tally) bool {
	for others := range tallies {
		if !slices.ContainsFunc(t[:], others.has) && l.flaws(join(others, imagesOf(t))) <= l.Flaws {
			return true
		}
	}
	return false
}
