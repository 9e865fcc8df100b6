package cover

import "zoneworks/api"

// want is something that a field wants of a plate: what of the plate has to share a number with what.
type want struct {
	of   func(p api.Sky) api.Span
	with api.Span
}

// wants returns all that a field wants of a plate that is of use.
func wants(f api.Field) []want {
	return []want{
		{func(p api.Sky) api.Span { return alone(p.Day) }, f.Days},
		{func(p api.Sky) api.Span { return alone(p.Depth) }, api.Span{Lo: f.Depth, Hi: api.CoverDepth}},
		{func(p api.Sky) api.Span { return p.East }, f.East},
		{func(p api.Sky) api.Span { return p.North }, f.North},
	}
}

// isOfUse returns whether a plate is of use.
func isOfUse(f api.Field, p api.Sky) bool {
	for _, w := range wants(f) {
		if !share(w.of(p), w.with) {
			return false
		}
	}
	return true
}

// alone returns the span of one number.
func alone(n int) api.Span {
	return api.Span{Lo: n, Hi: n}
}

// share returns whether two spans have a number in common.
func share(a, b api.Span) bool {
	return max(a.Lo, b.Lo) <= min(a.Hi, b.Hi)
}

// has returns whether a number is in a span.
func has(s api.Span, n int) bool {
	return share(s, alone(n))
}
