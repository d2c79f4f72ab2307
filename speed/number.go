package speed

// number is a type of the whole numbers that the arguments have: turns and names are int, speeds and cycles int64.
type number interface{ int | int64 }

// within tells whether all numbers are from lo to hi.
func within[N number](lo, hi N, numbers ...N) bool {
	for _, n := range numbers {
		if n < lo || n > hi {
			return false
		}
	}
	return true
}

// bounds returns the least and the greatest number by which a product above 0 can be divided, if the quotient is to be from lo, which is above 0, to hi.
// The least one may be above the greatest one: then there is no such number.
func bounds[N number](product, lo, hi N) (least, greatest N) {
	return (product-1)/hi + 1, product / lo
}
