package eye

import "zoneworks/api"

// holds returns whether another span is valid, and within a span.
func holds(s, other api.Span) bool {
	return s.Lo <= other.Lo && other.Lo <= other.Hi && other.Hi <= s.Hi
}

// has returns whether a number is in a span.
func has(s api.Span, number int) bool {
	return holds(s, api.Span{Lo: number, Hi: number})
}

// add returns the span of what a number of each of two spans are together.
func add(a, b api.Span) api.Span {
	return api.Span{Lo: a.Lo + b.Lo, Hi: a.Hi + b.Hi}
}

// turn returns the span of the numbers of a span with the other sign.
func turn(s api.Span) api.Span {
	return api.Span{Lo: -s.Hi, Hi: -s.Lo}
}

// join returns the span of the numbers that are in a span, and in others, too.
func join(s api.Span, others ...api.Span) api.Span {
	for _, o := range others {
		s = api.Span{Lo: max(s.Lo, o.Lo), Hi: min(s.Hi, o.Hi)}
	}
	return s
}
