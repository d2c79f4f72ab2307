package right

import "mandrel/api"

// bits tells of each fact, or of each ask, by its number whether it is meant.
type bits [max(api.MaxRightFacts, api.MaxRightAsks)]bool

// of returns the bits of some numbers.
func of(numbers ...int) bits {
	var b bits
	b.add(numbers...)
	return b
}

// add puts some numbers to those that are meant.
func (b *bits) add(numbers ...int) {
	for _, n := range numbers {
		b[n] = true
	}
}

// has tells whether all of some numbers are meant.
func (b *bits) has(numbers ...int) bool {
	for _, n := range numbers {
		if !b[n] {
			return false
		}
	}
	return true
}

// numbers returns the numbers that are meant, increasing.
func (b *bits) numbers() []int {
	var numbers []int
	for n, is := range b {
		if is {
			numbers = append(numbers, n)
		}
	}
	return numbers
}
