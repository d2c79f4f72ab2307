package play

import (
	"cmp"
	"iter"

	"mandrel/api"
)

// within tells whether all numbers are from lo to hi.
func within[N cmp.Ordered](lo, hi N, numbers ...N) bool {
	for _, n := range numbers {
		if n < lo || n > hi {
			return false
		}
	}
	return true
}

// rising tells whether a list strictly increases.
func rising(list []int) bool {
	for i := 1; i < len(list); i++ {
		if list[i-1] >= list[i] {
			return false
		}
	}
	return true
}

// areTurns tells whether a first and a last turn are turns of a cylinder, in this order.
func areTurns(c api.PlayCylinder, first, last int) bool {
	return within(0, c.Turns-1, first, last) && first <= last
}

// greatest returns the first one of several whose size no other one exceeds; not ok if there are none.
func greatest[T any](several iter.Seq[T], size func(T) int64) (best T, ok bool) {
	for x := range several {
		if !ok || size(x) > size(best) {
			best, ok = x, true
		}
	}
	return best, ok
}
