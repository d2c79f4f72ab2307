package word

import (
	"iter"
	"slices"

	"mandrel/api"
)

// place is an index for each hearer: those of a match, or those up to which all hearers have written.
// For hearers that there are not it is 0.
type place [api.MaxWordHearers]int

// board is valid lines with the dictionary of their words.
type board struct {
	*dictionary
	lines [][]int
}

// lay returns the board of lines.
func lay(b api.WordBook, lines [][]int) (*board, api.Errno) {
	if e := CheckLines(b, lines); e != api.OK {
		return nil, e
	}
	return &board{open(b), lines}, api.OK
}

// matches yields the matches in order.
func (b *board) matches() iter.Seq[place] {
	return func(yield func(place) bool) {
		for i, word := range b.lines[0] {
			if !b.complete(place{i}, 1, b.kin(word), yield) {
				return
			}
		}
	}
}

// complete yields, in order, the matches with the indexes of m for the first hearers, so many of them, whose other words are of their kin.
// It tells whether more matches are wanted.
func (b *board) complete(m place, hearers int, kin func(word int) bool, yield func(place) bool) bool {
	if hearers == len(b.lines) {
		return yield(m)
	}
	for i, word := range b.lines[hearers] {
		if !kin(word) {
			continue
		}
		m[hearers] = i
		if !b.complete(m, hearers+1, kin, yield) {
			return false
		}
	}
	return true
}

// tell returns matches as the results have them.
func (b *board) tell(matches []place) []api.WordMatch {
	var told []api.WordMatch
	for _, m := range matches {
		match := make(api.WordMatch, len(b.lines))
		copy(match, m[:])
		told = append(told, match)
	}
	return told
}

// check returns the error of CheckPassage.
func (b *board) check(p []api.WordMatch) api.Errno {
	if len(p) > api.MaxWordText {
		return api.ErrMany
	}
	for _, m := range p {
		if len(m) != len(b.lines) {
			return api.ErrEqual
		}
	}
	for _, m := range p {
		for hearer, i := range m {
			if !within(0, len(b.lines[hearer])-1, i) {
				return api.ErrRange
			}
		}
	}
	for _, m := range p {
		if !b.alike(b.words(m)...) {
			return api.ErrWord
		}
	}
	if !rising(p...) {
		return api.ErrOrder
	}
	return api.OK
}

// words returns the words at the indexes of a match.
func (b *board) words(m api.WordMatch) []int {
	var words []int
	for hearer, i := range m {
		words = append(words, b.lines[hearer][i])
	}
	return words
}

// whole returns up to where all hearers have written at the end.
func (b *board) whole() place {
	var p place
	for hearer, line := range b.lines {
		p[hearer] = len(line)
	}
	return p
}

// turned returns the board of the lines as they are read from their ends.
func (b *board) turned() *board {
	t := &board{dictionary: b.dictionary}
	for _, line := range b.lines {
		line = slices.Clone(line)
		slices.Reverse(line)
		t.lines = append(t.lines, line)
	}
	return t
}

// turn returns a match as it is in the lines that are read from their ends.
func (b *board) turn(m place) place {
	for hearer, line := range b.lines {
		m[hearer] = len(line) - 1 - m[hearer]
	}
	return m
}
