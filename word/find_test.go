package word_test

import (
	"math"
	"slices"
	"testing"

	"mandrel/api"
	"mandrel/word"
)

// found is what is told of lines.
type found struct {
	matches, longest, certain string
	count                     int64
	levels                    string
	grades                    []string
}

// checkFound checks all that is told of lines.
func checkFound(t *testing.T, b api.WordBook, lines [][]int, want found) {
	t.Helper()
	if got, e := word.Matches(b, lines); !equal(got, matches(want.matches)) || e != api.OK {
		t.Error(lines, got, e)
	}
	if got, e := word.Longest(b, lines); !equal(got, matches(want.longest)) || e != api.OK {
		t.Error(lines, got, e)
	}
	if got, e := word.Certain(b, lines); !equal(got, matches(want.certain)) || e != api.OK {
		t.Error(lines, got, e)
	}
	if got, e := word.Count(b, lines); got != want.count || e != api.OK {
		t.Error(lines, got, e)
	}
	if got, e := word.Levels(b, lines); !slices.Equal(got, numbers(want.levels)) || e != api.OK {
		t.Error(lines, got, e)
	}
	for hearer, grades := range want.grades {
		if got, e := word.Grades(b, lines, hearer); !slices.Equal(got, numbers(grades)) || e != api.OK {
			t.Error(lines, hearer, got, e)
		}
	}
}

// P4.4, P4.6 to P4.10: the chapter's examples, except those that TestAlike, TestCheckPassage and TestCheckLevels have, and others.
func TestFound(t *testing.T) {
	for _, x := range []struct {
		lines string
		want  found
	}{
		{"1234/1354", found{"00 12 21 33", "00 12 33", "00 33", 2, "1223", []string{"2112", "2112"}}},
		{"1234/1354/41", found{"001 330", "001", "", 2, "11", []string{"1001", "1001", "11"}}},
		// Without a match there is one longest passage, and it has none.
		{"/", found{"", "", "", 1, "", []string{"", ""}}},
		{"1/", found{"", "", "", 1, "", []string{"0", ""}}},
		{"/11", found{"", "", "", 1, "", []string{"", "00"}}},
		{"123/467", found{"", "", "", 1, "", []string{"000", "000"}}},
		{"12/21/", found{"", "", "", 1, "", []string{"00", "00", ""}}},
		{"12/12/34", found{"", "", "", 1, "", []string{"00", "00", "00"}}},
		// Just one longest passage.
		{"123/123", found{"00 11 22", "00 11 22", "00 11 22", 1, "123", []string{"222", "222"}}},
		{"1/1/1/1", found{"0000", "0000", "0000", 1, "1", []string{"2", "2", "2", "2"}}},
		{"2/5/2/5", found{"0000", "0000", "0000", 1, "1", []string{"2", "2", "2", "2"}}},
		// Matches that are on none.
		{"1234/2341", found{"03 10 21 32", "10 21 32", "10 21 32", 1, "1123", []string{"0222", "2220"}}},
		{"4123/1234", found{"03 10 21 32", "10 21 32", "10 21 32", 1, "1123", []string{"0222", "2220"}}},
		// A word is certain although no match with it is.
		{"1/11", found{"00 01", "00", "", 2, "11", []string{"2", "11"}}},
		{"131/1131", found{"00 01 03 12 20 21 23", "00 12 23", "12 23", 2, "1112123", []string{"222", "1122"}}},
		// The same word again.
		{"11/11", found{"00 01 10 11", "00 11", "00 11", 1, "1112", []string{"22", "22"}}},
		{"11/111", found{"00 01 02 10 11 12", "00 11", "", 3, "111122", []string{"22", "111"}}},
		{"121/212", found{"01 10 12 21", "01 12", "", 2, "1122", []string{"121", "121"}}},
		// The first match of the first passage is not the first one of all.
		{"1234/4123", found{"01 12 23 30", "01 12 23", "01 12 23", 1, "1231", []string{"2220", "0222"}}},
		{"312/123", found{"02 10 21", "10 21", "10 21", 1, "112", []string{"022", "220"}}},
		// Three and four hearers: each may be the one who has it otherwise.
		{"123/132/123", found{"000 121 212", "000 121", "000", 2, "122", []string{"211", "211", "211"}}},
		{"12/12/12/21", found{"0001 1110", "0001", "", 2, "11", []string{"11", "11", "11", "11"}}},
		{"12/12/21/12", found{"0010 1101", "0010", "", 2, "11", []string{"11", "11", "11", "11"}}},
		{"12/12/12/12", found{"0000 1111", "0000 1111", "0000 1111", 1, "12", []string{"22", "22", "22", "22"}}},
		{"16/116/161/16", found{"0000 0020 0100 0120 1211", "0000 1211", "1211", 2, "11112", []string{"22", "112", "220", "22"}}},
	} {
		checkFound(t, book(2, 5), of(x.lines), x.want)
	}
}

// P4.10: hearers that there are not.
func TestHearers(t *testing.T) {
	for i, x := range []struct {
		lines  string
		hearer int
		e      api.Errno
	}{
		{"1/1", 1, api.OK},
		{"1/1", 2, api.ErrRange},
		{"1/1/1", 2, api.OK},
		{"1/1/1", 3, api.ErrRange},
		{"1/1/1/1", 3, api.OK},
		{"1/1/1/1", 4, api.ErrRange},
		{"1/1", -1, api.ErrRange},
		{"/", 2, api.ErrRange},
		{"1/1", math.MinInt, api.ErrRange},
		{"1/1", math.MaxInt, api.ErrRange},
	} {
		if l, e := word.Grades(book(), of(x.lines), x.hearer); (len(l) > 0) != (x.e == api.OK) || e != x.e {
			t.Error(i, l, e)
		}
	}
}

// choose returns in how many ways some of eight words can be left.
func choose(some int) int64 {
	n := int64(1)
	for i := range some {
		n = n * int64(8-i) / int64(i+1)
	}
	return n
}

// P4.4, P4.6 to P4.10 at the limits: four hearers, eight words that are all alike, but for the last one, who has fewer.
func TestLimits(t *testing.T) {
	b := book(1, 7, 100, 7)
	for few := range 9 {
		lines := [][]int{long(1, 8), long(7, 8), long(100, 8), long(1, few)}
		if l, e := word.Matches(b, lines); len(l) != 512*few || e != api.OK {
			t.Error(few, len(l), e)
		}
		want := choose(few) * choose(few) * choose(few)
		if n, e := word.Count(b, lines); n != want || e != api.OK {
			t.Error(few, n, e)
		}
		var straight []api.WordMatch
		for i := range few {
			straight = append(straight, api.WordMatch{i, i, i, i})
		}
		if l, e := word.Longest(b, lines); !equal(l, straight) || e != api.OK {
			t.Error(few, l, e)
		}
		if l, e := word.Grades(b, lines, 3); !slices.Equal(l, long(2, few)) || e != api.OK {
			t.Error(few, l, e)
		}
		grade := []int{0, 1, 1, 1, 1, 1, 1, 1, 2}[few]
		if l, e := word.Grades(b, lines, 1); !slices.Equal(l, long(grade, 8)) || e != api.OK {
			t.Error(few, l, e)
		}
		if few < 8 {
			straight = nil
		}
		if l, e := word.Certain(b, lines); !equal(l, straight) || e != api.OK {
			t.Error(few, l, e)
		}
		checkLeast(t, b, lines)
	}
}

// checkLeast checks the levels of lines whose words are all alike: each match has as many before it as the least of its indexes.
func checkLeast(t *testing.T, b api.WordBook, lines [][]int) {
	t.Helper()
	l, e := word.Matches(b, lines)
	levels, f := word.Levels(b, lines)
	if len(levels) != len(l) || e != api.OK || f != api.OK {
		t.Fatal(lines, len(l), len(levels), e, f)
	}
	for i, m := range l {
		if levels[i] != slices.Min(m)+1 {
			t.Error(lines, m, levels[i])
		}
	}
	if n, e := word.CheckLevels(b, lines, levels); n != len(lines[3]) || e != api.OK {
		t.Error(lines, n, e)
	}
}
