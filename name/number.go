package name

import (
	"cmp"
	"iter"
	"slices"
)

// within tells whether all numbers are from lo to hi.
func within[N cmp.Ordered](lo, hi N, numbers ...N) bool {
	for _, n := range numbers {
		if n < lo || n > hi {
			return false
		}
	}
	return true
}

// rising tells whether all lists strictly increase, with numbers from 0 to count - 1.
func rising(count int, lists ...[]int) bool {
	for _, list := range lists {
		before := -1
		for _, n := range list {
			if n <= before || n >= count {
				return false
			}
			before = n
		}
	}
	return true
}

// in returns what tells whether a number is in a list.
func in(list []int) func(n int) bool {
	return func(n int) bool { return slices.Contains(list, n) }
}

// contains tells whether a list has all of several numbers.
func contains(list []int, numbers ...int) bool {
	for _, n := range numbers {
		if !slices.Contains(list, n) {
			return false
		}
	}
	return true
}

// first returns the first one that is good; not ok if none is.
func first[T any](all iter.Seq[T], good func(T) bool) (found T, ok bool) {
	for x := range all {
		if good(x) {
			return x, true
		}
	}
	return found, false
}
