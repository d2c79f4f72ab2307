package join

import (
	"iter"

	"mandrel/api"
)

// within tells whether all ranges are valid, with ends from lo to hi.
func within(lo, hi int64, ranges ...api.Range) bool {
	for _, r := range ranges {
		if r.Lo < lo || r.Lo > r.Hi || r.Hi > hi {
			return false
		}
	}
	return true
}

// just returns the range of a number alone.
func just(n int64) api.Range { return api.Range{Lo: n, Hi: n} }

// first returns the first one that is good; not ok if none is.
func first[T any](all iter.Seq[T], good func(T) bool) (found T, ok bool) {
	for x := range all {
		if good(x) {
			return x, true
		}
	}
	return found, false
}
