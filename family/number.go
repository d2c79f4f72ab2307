package family

import (
	"cmp"
	"iter"
)

// within tells whether all numbers are from lo to hi.
func within[N cmp.Ordered](lo, hi N, numbers ...N) bool {
	for _, n := range numbers {
		if n < lo || n > hi {
			return false
		}
	}
	return true
}

// rising tells whether a list strictly increases.
func rising(list []int) bool {
	for i := 1; i < len(list); i++ {
		if list[i-1] >= list[i] {
			return false
		}
	}
	return true
}

// least returns the first one of several than which no other one is smaller; not ok if there are none.
func least[T any, N cmp.Ordered](several iter.Seq[T], size func(T) N) (best T, ok bool) {
	for x := range several {
		if !ok || size(x) < size(best) {
			best, ok = x, true
		}
	}
	return best, ok
}
