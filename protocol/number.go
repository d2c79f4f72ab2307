package protocol

import (
	"cmp"
	"iter"
	"strconv"
	"strings"
)

// within tells whether all numbers are from lo to hi.
func within[N cmp.Ordered](lo, hi N, numbers ...N) bool {
	for _, n := range numbers {
		if n < lo || n > hi {
			return false
		}
	}
	return true
}

// first returns the first element that is good; not ok if none is.
func first[T any](l []T, good func(T) bool) (found T, ok bool) {
	for _, x := range l {
		if good(x) {
			return x, true
		}
	}
	return found, false
}

// taken returns a list in memory of its own.
func taken[T any](l []T) []T {
	own := make([]T, len(l))
	copy(own, l)
	return own
}

// lines yields the lines of a text, without their line feeds.
func lines(text string) iter.Seq[string] {
	return func(yield func(string) bool) {
		for line := range strings.Lines(text) {
			if !yield(strings.TrimSuffix(line, "\n")) {
				return
			}
		}
	}
}

// line returns a word and numbers with one space between them.
func line(word string, numbers ...int64) string {
	text := []byte(word)
	for _, n := range numbers {
		text = append(text, ' ')
		text = strconv.AppendInt(text, n, 10)
	}
	return string(text)
}

// number returns the number that a word is, or just any one if it is none: what is read is written again, and compared with the text.
func number(word string) int64 {
	n, _ := strconv.ParseInt(word, 10, 64)
	return n
}
