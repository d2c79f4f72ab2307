package word

import "cmp"

// within tells whether all numbers are from lo to hi.
func within(lo, hi int, numbers ...int) bool {
	for _, n := range numbers {
		if n < lo || n > hi {
			return false
		}
	}
	return true
}

// greatest returns the greatest one of several numbers above 0; 0 if there are none.
func greatest[N cmp.Ordered](numbers ...N) N {
	var most N
	for _, n := range numbers {
		most = max(most, n)
	}
	return most
}

// same tells whether something is the same of all elements of a list.
func same[T any, K comparable](list []T, of func(T) K) bool {
	for _, x := range list {
		if of(x) != of(list[0]) {
			return false
		}
	}
	return true
}

// rising tells whether each number of each list is above that at its index in the list before; the lists are equally long.
func rising[L ~[]int](lists ...L) bool {
	good := true
search:
	for i := 1; i < len(lists); i++ {
		for k, n := range lists[i] {
			if n <= lists[i-1][k] {
				good = false
				break search
			}
		}
	}
	return good
}
