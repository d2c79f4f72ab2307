package bath

import "cmp"

// within tells whether all numbers are from lo to hi.
func within[N cmp.Ordered](lo, hi N, numbers ...N) bool {
	for _, n := range numbers {
		if n < lo || n > hi {
			return false
		}
	}
	return true
}

// least puts num / den into least terms, with a den above 0. A den of 0 is none.
func least[N int | int64](num, den N) (N, N) {
	divisor, rest := den, num%den
	for rest != 0 {
		divisor, rest = rest, divisor%rest
	}
	if (divisor < 0) != (den < 0) {
		divisor = -divisor
	}
	return num / divisor, den / divisor
}

// fraction is the number num / den in least terms, with den above 0: equal numbers are equal fractions.
// In an elimination both are minors of its rows, at most 9 * 5^4 * 5^(5/2) < 2^19, so that three of them can be multiplied.
type fraction struct {
	num, den int64
}

// whole returns a whole number as a fraction.
func whole(n int64) fraction { return fraction{n, 1} }

// over returns the fraction num / den.
func over(num, den int64) fraction {
	num, den = least(num, den)
	return fraction{num, den}
}

// by returns a fraction divided by another one.
func (f fraction) by(g fraction) fraction { return over(f.num*g.den, f.den*g.num) }

// less returns a fraction less the product of two others.
func (f fraction) less(g, h fraction) fraction {
	return over(f.num*g.den*h.den-f.den*g.num*h.num, f.den*g.den*h.den)
}

// together returns the numbers of fractions that have one den in common, and the least such den.
func together(fractions ...fraction) ([]int64, int64) {
	den := int64(1)
	for _, f := range fractions {
		more, _ := least(f.den, den)
		den *= more
	}
	var numbers []int64
	for _, f := range fractions {
		numbers = append(numbers, f.num*(den/f.den))
	}
	return numbers, den
}
