package plate

import "zoneworks/api"

// far is farther than any place in the sky, by more than any plate reaches.
const far = 1 << 26

// anywhere returns a span of more than all places in the sky.
func anywhere() api.Span {
	return api.Span{Lo: -far, Hi: far}
}

// only returns the span of one number.
func only(number int) api.Span {
	return api.Span{Lo: number, Hi: number}
}

// add returns the span of what a number of each of two spans are together.
func add(a, b api.Span) api.Span {
	return api.Span{Lo: a.Lo + b.Lo, Hi: a.Hi + b.Hi}
}

// less returns the span of what a number of a span is, less one of another span.
func less(s, by api.Span) api.Span {
	return api.Span{Lo: s.Lo - by.Hi, Hi: s.Hi - by.Lo}
}

// join returns the span of the numbers that are in both of two spans.
func join(a, b api.Span) api.Span {
	return api.Span{Lo: max(a.Lo, b.Lo), Hi: min(a.Hi, b.Hi)}
}

// width returns by how much the greatest number of a span is greater than the least one.
func width(s api.Span) int {
	return s.Hi - s.Lo
}
