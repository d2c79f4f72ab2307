package right

import (
	"cmp"
	"iter"
	"slices"
)

// within tells whether all numbers are from lo to hi.
func within[N cmp.Ordered](lo, hi N, numbers ...N) bool {
	for _, n := range numbers {
		if n < lo || n > hi {
			return false
		}
	}
	return true
}

// rising tells whether all lists strictly increase, with numbers from 0 to count - 1.
func rising(count int, lists ...[]int) bool {
	for _, list := range lists {
		before := -1
		for _, n := range list {
			if n <= before || n >= count {
				return false
			}
			before = n
		}
	}
	return true
}

// choices yields all strictly increasing lists of so many numbers from 0 to count - 1, in lexicographic order. There are so many numbers.
func choices(count, size int) iter.Seq[[]int] {
	return func(yield func([]int) bool) {
		list := make([]int, size)
		for i := range list {
			list[i] = i
		}
		for yield(slices.Clone(list)) {
			at := size - 1
			for at >= 0 && list[at] == count-size+at {
				at--
			}
			if at < 0 {
				return
			}
			next := list[at] + 1
			for i := range list[at:] {
				list[at+i] = next + i
			}
		}
	}
}

// first returns the first one that is good; not ok if none is.
func first[T any](all iter.Seq[T], good func(T) bool) (found T, ok bool) {
	for x := range all {
		if good(x) {
			return x, true
		}
	}
	return found, false
}
