package overlap

import "zoneworks/api"

// farthest is how far corrections are from 0, at most.
const farthest = 1 << 40

// anywhere returns the span of all corrections.
func anywhere() api.Span {
	return api.Span{Lo: -farthest, Hi: farthest}
}

// only returns the span of one number.
func only(number int) api.Span {
	return api.Span{Lo: number, Hi: number}
}

// around returns the span of the numbers that differ from one by at most so much.
func around(number, most int) api.Span {
	return api.Span{Lo: number - most, Hi: number + most}
}

// add returns the span of what a number of each of two spans are together.
func add(a, b api.Span) api.Span {
	return api.Span{Lo: a.Lo + b.Lo, Hi: a.Hi + b.Hi}
}

// less returns the span of what a number of a span is, less one of another span.
func less(s, by api.Span) api.Span {
	return api.Span{Lo: s.Lo - by.Hi, Hi: s.Hi - by.Lo}
}

// join returns the span of the numbers that are in both of two spans.
func join(a, b api.Span) api.Span {
	return api.Span{Lo: max(a.Lo, b.Lo), Hi: min(a.Hi, b.Hi)}
}

// isOne returns whether a span contains one number only.
func isOne(s api.Span) bool {
	return s.Lo == s.Hi
}

// isEmpty returns whether a span contains no number.
func isEmpty(s api.Span) bool {
	return s.Lo > s.Hi
}
