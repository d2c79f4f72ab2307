package word_test

import (
	"math"
	"reflect"
	"slices"
	"testing"

	"mandrel/api"
	"mandrel/word"
)

// results returns what all functions return for a dictionary, lines, a passage, levels and two numbers.
func results(b api.WordBook, lines [][]int, p []api.WordMatch, levels []int, one, two int) []any {
	var all []any
	call := func(x any, e api.Errno) { all = append(all, x, e) }
	all = append(all, word.CheckBook(b), word.CheckLines(b, lines), word.CheckPassage(b, lines, p))
	is, e := word.Alike(b, one, two)
	call(is, e)
	l, e := word.Matches(b, lines)
	call(l, e)
	l, e = word.Longest(b, lines)
	call(l, e)
	n, e := word.Count(b, lines)
	call(n, e)
	i, e := word.Levels(b, lines)
	call(i, e)
	bound, e := word.CheckLevels(b, lines, levels)
	call(bound, e)
	l, e = word.Certain(b, lines)
	call(l, e)
	i, e = word.Grades(b, lines, one)
	call(i, e)
	return all
}

// R5, R10: no argument is changed, not behind its end either, and equal calls return equal results.
func TestArguments(t *testing.T) {
	// Each list has room behind its end, where something is that must stay.
	arguments := func() (api.WordBook, [][]int, []api.WordMatch, []int) {
		b := book(2, 5, 7, 7)
		lines := append(of("12349/13549"), long(9, 3), long(9, 3))
		return b, lines, matches("009 219 339 999"), numbers("122399")
	}
	b, lines, p, levels := arguments()
	// cut returns what arguments are without what is behind their ends.
	cut := func() (api.WordBook, [][]int, []api.WordMatch, []int) {
		c := api.WordBook{Likes: b.Likes[:1]}
		short := [][]int{lines[0][:4], lines[1][:4], nil, nil}
		q := []api.WordMatch{p[0][:2], p[1][:2], p[2][:2], p[3]}
		return c, short[:2], q[:3], levels[:4]
	}
	c, short, q, few := cut()
	first := results(c, short, q, few, 1, 2)
	for i := range 5 {
		if again := results(c, short, q, few, 1, 2); !reflect.DeepEqual(first, again) {
			t.Error(i, first, again)
		}
	}
	is, isShort, isQ, isFew := cut()
	if !reflect.DeepEqual([]any{c, short[:4], q[:4], few}, []any{is, isShort[:4], isQ[:4], isFew}) {
		t.Error(c, short[:4], q[:4], few)
	}
	was, wasLines, wasP, wasLevels := arguments()
	if !reflect.DeepEqual([]any{b, lines, p, levels}, []any{was, wasLines, wasP, wasLevels}) {
		t.Error(b, lines, p, levels)
	}
}

// R5: a result shares no memory with an argument or another result, nor do two lists of one result.
func TestResults(t *testing.T) {
	b, lines := chapter()
	lines = append(lines, []int{1, 3, 2, 4})
	for i, call := range []func() []api.WordMatch{
		func() []api.WordMatch { l, _ := word.Matches(b, lines); return l },
		func() []api.WordMatch { l, _ := word.Longest(b, lines); return l },
		func() []api.WordMatch { l, _ := word.Certain(b, lines); return l },
	} {
		other, l := call(), call()
		for k, m := range l {
			m = m[:cap(m)]
			for h := range m {
				m[h] = 77
			}
			for h, n := range l[k+1:] {
				if !slices.Equal(n, other[k+1+h]) {
					t.Error(i, k, l, other)
				}
			}
			l[k] = nil
		}
		if len(l) < 2 || !equal(other, call()) {
			t.Error(i, l, other, call())
		}
	}
	for i, call := range []func() []int{
		func() []int { l, _ := word.Levels(b, lines); return l },
		func() []int { l, _ := word.Grades(b, lines, 0); return l },
	} {
		other, l := call(), call()
		l = l[:cap(l)]
		for k := range l {
			l[k] = 77
		}
		if len(other) == 0 || !slices.Equal(other, call()) {
			t.Error(i, l, other)
		}
	}
	c, same := chapter()
	if !reflect.DeepEqual(b, c) || !reflect.DeepEqual(lines[:2], same) || !slices.Equal(lines[2], []int{1, 3, 2, 4}) {
		t.Error(b, lines)
	}
}

// R3: a nil list and an empty one are the same.
func TestNil(t *testing.T) {
	empty := api.WordBook{Likes: [][2]int{}}
	for i, x := range []struct{ a, b [][]int }{
		{nil, [][]int{}},
		{[][]int{nil, nil}, [][]int{{}, {}}},
		{[][]int{{1}, nil, {1}}, [][]int{{1}, {}, {1}}},
		{of("1/1"), of("1/1")},
	} {
		l := results(api.WordBook{}, x.a, nil, nil, 1, 2)
		m := results(empty, x.b, []api.WordMatch{}, []int{}, 1, 2)
		for k := range l {
			if v := reflect.ValueOf(l[k]); v.Kind() == reflect.Slice && v.Len() == 0 && reflect.ValueOf(m[k]).Len() == 0 {
				continue
			}
			if !reflect.DeepEqual(l[k], m[k]) {
				t.Error(i, k, l, m)
			}
		}
	}
	b, lines := chapter()
	if e := word.CheckPassage(b, lines, []api.WordMatch{}); e != api.OK {
		t.Error(e)
	}
}

// P1, R6, R2: every call ends without a panic, with an error of the chapter or none, whatever the numbers are, and with an error all else is zero.
func TestAnyNumber(t *testing.T) {
	ints := []int{math.MinInt, math.MinInt + 1, -1, 0, 1, 2, 3, 4, 8, 100, 101, math.MaxInt - 1, math.MaxInt}
	for _, n := range ints {
		for _, m := range ints {
			for _, k := range ints {
				checkResults(t, results(book(n, m), of("11/11"), []api.WordMatch{{0, 0}}, []int{k}, m, k))
				checkResults(t, results(book(1, 1), [][]int{{1, n}, {m}, {1, k}}, []api.WordMatch{{n, m, k}}, []int{k, m}, n, m))
				checkResults(t, results(book(1, 2), of("12/12"), []api.WordMatch{{n, m}, {m, k}}, []int{n, m, k, n}, n, k))
			}
		}
	}
	for count := range 12 {
		lines := slices.Repeat([][]int{long(1, count)}, count)
		p := slices.Repeat([]api.WordMatch{long(0, count)}, count)
		checkResults(t, results(pairs(1, 1, 5*count), lines, p, long(1, count), count, count))
	}
}

// checkResults checks that all results are as they may be: an error of the chapter, and zero values in front of it.
func checkResults(t *testing.T, all []any) {
	t.Helper()
	for i, x := range all {
		e, ok := x.(api.Errno)
		if !ok {
			continue
		}
		if !slices.Contains([]api.Errno{0, 2, 3, 6, 14, 15, 20, 24}, e) {
			t.Fatal(i, e, all)
		}
		if i > 2 && e != api.OK && !reflect.ValueOf(all[i-1]).IsZero() {
			t.Fatal(i, e, all)
		}
	}
}

// README.md tells these numbers.
func TestReadme(t *testing.T) {
	b := book(7, 12)
	lines := [][]int{{3, 7, 9, 20, 5}, {3, 12, 20, 9, 5}, {3, 12, 9, 20, 5}}
	checkFound(t, b, lines, found{"000 111 232 323 444", "000 111 232 444", "000 111 444", 2, "12334", []string{"22112", "22112", "22112"}})
	if bound, e := word.CheckLevels(b, lines, numbers("12334")); bound != 4 || e != api.OK {
		t.Error(bound, e)
	}
}
