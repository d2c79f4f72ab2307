package room

import (
	"cmp"
	"iter"
)

// within tells whether all numbers are from lo to hi.
func within[N cmp.Ordered](lo, hi N, numbers ...N) bool {
	for _, n := range numbers {
		if n < lo || n > hi {
			return false
		}
	}
	return true
}

// greatest returns the first one of several whose size no other one exceeds; not ok if there are none.
func greatest[T any, N cmp.Ordered](several iter.Seq[T], size func(T) N) (best T, ok bool) {
	var most N
	for x := range several {
		if n := size(x); !ok || n > most {
			best, most, ok = x, n, true
		}
	}
	return best, ok
}
