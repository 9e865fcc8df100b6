package cover

import "zoneworks/api"

// insist refuses with an error unless something is so. What it panics with, answer recovers.
func insist(so bool, e api.Errno) {
	if !so {
		panic(e)
	}
}

// answer returns what is asked, or the error with which it was refused.
func answer[T any](ask func() T) (told T, e api.Errno) {
	defer func() {
		if r := recover(); r != nil {
			e = refusal(r)
		}
	}()
	return ask(), api.OK
}

// refusal returns the error of a panic; one that nobody insisted on can only come of an argument.
func refusal(r any) api.Errno {
	if e, ok := r.(api.Errno); ok {
		return e
	}
	return api.ErrArg
}
