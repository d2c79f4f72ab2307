package word_test

import (
	"math"
	"slices"
	"strings"
	"testing"

	"mandrel/api"
	"mandrel/word"
)

// book reads a dictionary: two numbers for each pair.
func book(words ...int) api.WordBook {
	var b api.WordBook
	for i := 0; i < len(words); i += 2 {
		b.Likes = append(b.Likes, [2]int{words[i], words[i+1]})
	}
	return b
}

// pairs returns a dictionary with so many equal pairs.
func pairs(one, two, count int) api.WordBook {
	return api.WordBook{Likes: slices.Repeat([][2]int{{one, two}}, count)}
}

// numbers reads one line: each digit is a number.
func numbers(text string) []int {
	var l []int
	for _, r := range text {
		l = append(l, int(r-'0'))
	}
	return l
}

// of reads the lines of several hearers, with strokes between them.
func of(text string) [][]int {
	var lines [][]int
	for line := range strings.SplitSeq(text, "/") {
		lines = append(lines, numbers(line))
	}
	return lines
}

// matches reads matches, with spaces between them.
func matches(text string) []api.WordMatch {
	var l []api.WordMatch
	for _, m := range strings.Fields(text) {
		l = append(l, numbers(m))
	}
	return l
}

// equal tells whether matches are the same.
func equal(a, b []api.WordMatch) bool {
	return slices.EqualFunc(a, b, func(m, n api.WordMatch) bool { return slices.Equal(m, n) })
}

// chapter returns the dictionary and the lines X of the chapter.
func chapter() (api.WordBook, [][]int) { return book(2, 5), of("1234/1354") }

// long returns a line with the same word so many times.
func long(word, count int) []int { return slices.Repeat([]int{word}, count) }

// errors returns the errors of all functions with a dictionary and lines, of which each other argument is wrong as well.
func errors(b api.WordBook, lines [][]int) []api.Errno {
	bad := slices.Repeat([]api.WordMatch{{-1}}, 9)
	_, a := word.Matches(b, lines)
	c := word.CheckPassage(b, lines, bad)
	_, d := word.Longest(b, lines)
	_, e := word.Count(b, lines)
	_, f := word.Levels(b, lines)
	_, g := word.CheckLevels(b, lines, long(0, 5000))
	_, h := word.Certain(b, lines)
	_, i := word.Grades(b, lines, -1)
	return []api.Errno{word.CheckLines(b, lines), a, c, d, e, f, g, h, i}
}

// P4.1, and all functions return the error of CheckBook before all others.
func TestBook(t *testing.T) {
	for i, x := range []struct {
		b api.WordBook
		e api.Errno
	}{
		{api.WordBook{}, api.OK},
		{book(2, 5), api.OK},
		{book(5, 5), api.OK},
		{book(2, 5, 5, 2, 2, 5), api.OK},
		{book(1, 100), api.OK},
		{book(100, 1), api.OK},
		{pairs(1, 100, 40), api.OK},
		{pairs(1, 100, 41), api.ErrMany},
		{pairs(0, 101, 41), api.ErrMany},
		{pairs(0, 101, 40), api.ErrArg},
		{book(0, 1), api.ErrArg},
		{book(1, 0), api.ErrArg},
		{book(0, 0), api.ErrArg},
		{book(101, 1), api.ErrArg},
		{book(1, 101), api.ErrArg},
		{book(-1, 1), api.ErrArg},
		{book(2, 5, 2, 101), api.ErrArg},
		{book(0, 5, 2, 5), api.ErrArg},
		{book(math.MinInt, math.MaxInt), api.ErrArg},
		{book(math.MaxInt, math.MinInt), api.ErrArg},
	} {
		if e := word.CheckBook(x.b); e != x.e {
			t.Error(i, e)
		}
		if x.e == api.OK {
			continue
		}
		if is, e := word.Alike(x.b, 0, 101); is || e != x.e {
			t.Error(i, is, e)
		}
		for _, lines := range [][][]int{nil, of("0/1"), of("111111111/1"), of("1/2")} {
			if got := errors(x.b, lines); !slices.Equal(got, slices.Repeat([]api.Errno{x.e}, 9)) {
				t.Error(i, got)
			}
		}
	}
}

// P4.2: words that are alike by several pairs, in either order, and what is not a word.
func TestAlike(t *testing.T) {
	chain := api.WordBook{}
	for i := range 40 {
		chain.Likes = append(chain.Likes, [2]int{i + 1, i + 2})
		if i%2 == 1 {
			chain.Likes[i] = [2]int{i + 2, i + 1}
		}
	}
	joined := book(1, 2, 3, 4, 5, 6, 7, 8, 2, 4, 6, 8, 8, 1)
	for i, x := range []struct {
		b        api.WordBook
		one, two int
		is       bool
		e        api.Errno
	}{
		{book(2, 5), 2, 5, true, api.OK},
		{book(2, 5), 5, 2, true, api.OK},
		{book(2, 5), 2, 3, false, api.OK},
		{book(2, 5), 5, 3, false, api.OK},
		{book(2, 5), 3, 3, true, api.OK},
		{book(2, 5), 5, 5, true, api.OK},
		{book(2, 5), 3, 4, false, api.OK},
		{book(), 1, 1, true, api.OK},
		{book(), 1, 100, false, api.OK},
		{book(), 100, 100, true, api.OK},
		{book(1, 100), 100, 1, true, api.OK},
		{book(7, 7), 7, 7, true, api.OK},
		{book(7, 7), 7, 8, false, api.OK},
		{book(2, 5, 5, 9), 2, 9, true, api.OK},
		{book(5, 2, 5, 9), 2, 9, true, api.OK},
		{book(2, 5, 9, 5), 9, 2, true, api.OK},
		{book(2, 5, 7, 9), 2, 9, false, api.OK},
		{joined, 3, 6, true, api.OK},
		{joined, 5, 4, true, api.OK},
		{joined, 9, 4, false, api.OK},
		{chain, 1, 41, true, api.OK},
		{chain, 41, 2, true, api.OK},
		{chain, 1, 42, false, api.OK},
		{book(2, 5), 0, 5, false, api.ErrArg},
		{book(2, 5), 5, 0, false, api.ErrArg},
		{book(2, 5), 0, 0, false, api.ErrArg},
		{book(2, 5), 101, 2, false, api.ErrArg},
		{book(2, 5), 2, 101, false, api.ErrArg},
		{book(2, 5), 101, 101, false, api.ErrArg},
		{book(2, 5), -1, -1, false, api.ErrArg},
		{book(2, 5), math.MinInt, math.MaxInt, false, api.ErrArg},
	} {
		if is, e := word.Alike(x.b, x.one, x.two); is != x.is || e != x.e {
			t.Error(i, is, e)
		}
	}
}

// P4.3, and all functions with lines return the error of CheckLines before their own.
func TestLines(t *testing.T) {
	for i, x := range []struct {
		lines [][]int
		e     api.Errno
	}{
		{of("1/2"), api.OK},
		{of("1/2/3"), api.OK},
		{of("1/2/3/4"), api.OK},
		{of("/"), api.OK},
		{of("///"), api.OK},
		{of("1234/"), api.OK},
		{[][]int{nil, {}}, api.OK},
		{[][]int{long(1, 8), long(100, 8), long(1, 8), long(100, 8)}, api.OK},
		{nil, api.ErrMany},
		{[][]int{}, api.ErrMany},
		{of("1"), api.ErrMany},
		{of("1/1/1/1/1"), api.ErrMany},
		{of("0"), api.ErrMany},
		{of("0/0/0/0/0"), api.ErrMany},
		{of("111111111/1"), api.ErrMany},
		{of("1/1/1/111111111"), api.ErrMany},
		// Too many words come before a word that is none, wherever either is.
		{of("0/111111111"), api.ErrMany},
		{of("000000000/1"), api.ErrMany},
		{of("0/1"), api.ErrArg},
		{of("1/0"), api.ErrArg},
		{of("11111111/11111110"), api.ErrArg},
		{of("1/1/1/0"), api.ErrArg},
		{[][]int{{1, 101}, {1}}, api.ErrArg},
		{[][]int{{1}, {-1}}, api.ErrArg},
		{[][]int{{1}, {math.MinInt}}, api.ErrArg},
		{[][]int{{math.MaxInt}, nil}, api.ErrArg},
	} {
		if e := word.CheckLines(book(2, 5), x.lines); e != x.e {
			t.Error(i, e)
		}
		if x.e == api.OK {
			continue
		}
		if got := errors(book(2, 5), x.lines); !slices.Equal(got, slices.Repeat([]api.Errno{x.e}, 9)) {
			t.Error(i, got)
		}
	}
}

// P4.5: passages, and the errors in their order.
func TestCheckPassage(t *testing.T) {
	b, x := chapter()
	three := append(of("1234/1354"), []int{4, 1})
	same := [][]int{long(1, 8), long(1, 8)}
	for i, x := range []struct {
		lines [][]int
		p     string
		e     api.Errno
	}{
		{x, "00 21 33", api.OK},
		{x, "00 12 33", api.OK},
		{x, "00 33", api.OK},
		{x, "12", api.OK},
		{x, "", api.OK},
		{of("/"), "", api.OK},
		{of("1/"), "", api.OK},
		{of("1/1/1/1"), "0000", api.OK},
		{three, "001", api.OK},
		{three, "330", api.OK},
		{same, "00 11 22 33 44 55 66 77", api.OK},
		{same, "00 11 22 33 44 55 66 67", api.ErrOrder},
		{same, "07", api.OK},
		{same, "07 17", api.ErrOrder},
		{same, "10 12", api.ErrOrder},
		{same, "01 10", api.ErrOrder},
		{same, "11 22 12", api.ErrOrder},
		{same, "33 33", api.ErrOrder},
		{x, "12 21", api.ErrOrder},
		{x, "21 12", api.ErrOrder},
		{x, "33 00", api.ErrOrder},
		{x, "00 00", api.ErrOrder},
		{of("11/11/11/11"), "0000 1111", api.OK},
		{of("11/11/11/11"), "0000 1110", api.ErrOrder},
		{of("11/11/11/11"), "0000 0111", api.ErrOrder},
		{x, "01", api.ErrWord},
		{x, "00 11 22", api.ErrWord},
		{x, "00 22", api.ErrWord},
		{x, "33 21 01", api.ErrWord},
		{of("1/2/1/1"), "0000", api.ErrWord},
		{of("1/1/1/2"), "0000", api.ErrWord},
		{of("2/2/2/5"), "0000", api.OK},
		{x, "04", api.ErrRange},
		{x, "40", api.ErrRange},
		{x, "01 12 34", api.ErrRange},
		{x, "33 00 04", api.ErrRange},
		{three, "002", api.ErrRange},
		{of("1/"), "00", api.ErrRange},
		{x, "0", api.ErrEqual},
		{x, "000", api.ErrEqual},
		{x, "00 12 4", api.ErrEqual},
		{x, "04 0", api.ErrEqual},
		{three, "00", api.ErrEqual},
		{x, "00 00 00 00 00 00 00 00 00", api.ErrMany},
		{x, "0 0 0 0 0 0 0 0 0", api.ErrMany},
		{x, "99 99 99 99 99 99 99 99 99", api.ErrMany},
		{x, "0 0 0 0 0 0 0 0", api.ErrEqual},
		{x, "99 99 99 99 99 99 99 99", api.ErrRange},
		{x, "01 01 01 01 01 01 01 01", api.ErrWord},
	} {
		if e := word.CheckPassage(b, x.lines, matches(x.p)); e != x.e {
			t.Error(i, e)
		}
	}
	for i, m := range []api.WordMatch{{-1, 0}, {0, -1}, {0, math.MaxInt}, {math.MinInt, 0}} {
		if e := word.CheckPassage(b, x, []api.WordMatch{{0, 1}, m}); e != api.ErrRange {
			t.Error(i, e)
		}
	}
	for i, m := range []api.WordMatch{nil, {}} {
		if e := word.CheckPassage(b, x, []api.WordMatch{m}); e != api.ErrEqual {
			t.Error(i, e)
		}
	}
}

// P4.8: levels that are right, with their bound, and others.
func TestCheckLevels(t *testing.T) {
	b, x := chapter()
	// All matches of these come behind each other, or none of them does.
	up, beside := of("123/123"), of("123/321")
	for i, x := range []struct {
		lines  [][]int
		levels []int
		bound  int
		e      api.Errno
	}{
		{x, []int{1, 2, 2, 3}, 3, api.OK},
		{x, []int{1, 2, 3, 4}, 4, api.OK},
		{x, []int{1, 3, 2, 4}, 4, api.OK},
		{x, []int{1, 9, 2, 10}, 10, api.OK},
		{x, []int{5, 6, 7, math.MaxInt}, math.MaxInt, api.OK},
		{x, []int{1, 2, 2, 2}, 0, api.ErrSum},
		{x, []int{1, 2, 3, 3}, 0, api.ErrSum},
		{x, []int{1, 3, 2, 3}, 0, api.ErrSum},
		{x, []int{1, 1, 2, 3}, 0, api.ErrSum},
		{x, []int{1, 2, 1, 3}, 0, api.ErrSum},
		{x, []int{2, 2, 3, 4}, 0, api.ErrSum},
		{x, []int{0, 2, 2, 3}, 0, api.ErrSum},
		{x, []int{-1, 2, 2, 3}, 0, api.ErrSum},
		{x, []int{math.MinInt, 2, 2, 3}, 0, api.ErrSum},
		{x, []int{math.MaxInt, 2, 2, 3}, 0, api.ErrSum},
		{x, []int{3, 2, 2, 1}, 0, api.ErrSum},
		{x, []int{1, 2, 2}, 0, api.ErrEqual},
		{x, []int{1, 2, 2, 3, 3}, 0, api.ErrEqual},
		{x, []int{0, 0, 0}, 0, api.ErrEqual},
		{x, nil, 0, api.ErrEqual},
		{up, []int{1, 2, 3}, 3, api.OK},
		{up, []int{1, 3, 2}, 0, api.ErrSum},
		{up, []int{4, 5, 6}, 6, api.OK},
		{beside, []int{1, 1, 1}, 1, api.OK},
		{beside, []int{3, 1, 2}, 3, api.OK},
		{beside, []int{3, 0, 2}, 0, api.ErrSum},
		{beside, []int{3, 1, 0}, 0, api.ErrSum},
		// Just below and just beside in one index: none comes before another one.
		{of("1/11"), []int{1, 1}, 1, api.OK},
		{of("11/1"), []int{2, 1}, 2, api.OK},
		{of("11/11"), []int{1, 1, 1, 2}, 2, api.OK},
		{of("11/11"), []int{1, 7, 7, 2}, 7, api.OK},
		{of("11/11"), []int{1, 1, 1, 1}, 0, api.ErrSum},
		{of("1/2"), nil, 0, api.OK},
		{of("/"), nil, 0, api.OK},
		{of("1/2"), []int{1}, 0, api.ErrEqual},
		{of("1/2"), []int{0}, 0, api.ErrEqual},
	} {
		if bound, e := word.CheckLevels(b, x.lines, x.levels); bound != x.bound || e != x.e {
			t.Error(i, bound, e)
		}
	}
}
