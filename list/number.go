package list

import (
	"iter"
	"slices"

	"mandrel/api"
)

// within tells whether all numbers are from lo to hi.
func within(lo, hi int, numbers ...int) bool {
	for _, n := range numbers {
		if n < lo || n > hi {
			return false
		}
	}
	return true
}

// indexes tells whether numbers strictly increase, and are indexes of a list with so many elements.
func indexes(count int, numbers ...int) bool {
	before := -1
	for _, n := range numbers {
		if n <= before || n >= count {
			return false
		}
		before = n
	}
	return true
}

// different tells whether no two elements are the same.
func different[T comparable](list ...T) bool {
	for i, x := range list {
		if slices.Contains(list[:i], x) {
			return false
		}
	}
	return true
}

// contains tells whether a list has all of several numbers.
func contains(list []int, numbers ...int) bool {
	for _, n := range numbers {
		if !slices.Contains(list, n) {
			return false
		}
	}
	return true
}

// apart tells whether no two of some links of a sheet have an item in common.
func apart(s api.ListSheet, names []int) bool {
	var lefts, rights []int
	for _, name := range names {
		lefts = append(lefts, s.Links[name].Left)
		rights = append(rights, s.Links[name].Right)
	}
	return different(lefts...) && different(rights...)
}

// least returns the first one of several whose size no other one is below; not ok if there are none.
func least[T any](several iter.Seq[T], size func(T) int) (best T, ok bool) {
	for x := range several {
		if !ok || size(x) < size(best) {
			best, ok = x, true
		}
	}
	return best, ok
}
