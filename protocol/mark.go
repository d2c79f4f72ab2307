package protocol

import (
	"strconv"

	"mandrel/api"
)

// prime is what the marks of all numbers are 1 above a multiple of.
const prime = 97

// markDigits is how many digits are put behind a number to make it a mark.
const markDigits = 2

// markOf returns the mark of a number from 1 to MaxNumber.
func markOf(number int64) string {
	c := (prime + 1 - 100*number%prime) % prime
	return strconv.FormatInt(100*number+c, 10)
}

// marked returns the number in front of the last digits of a mark, whichever these are; not ok if there is none.
func marked(mark string) (int64, bool) {
	at := len(mark) - markDigits
	if at < 1 || !within('0', '9', []byte(mark[at:])...) {
		return 0, false
	}
	n := number(mark[:at])
	return n, within(1, api.MaxNumber, n) && strconv.FormatInt(n, 10) == mark[:at]
}
