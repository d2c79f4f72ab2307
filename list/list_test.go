package list_test

import (
	"math"
	"slices"
	"strconv"
	"strings"
	"testing"

	"mandrel/api"
	"mandrel/list"
)

// links reads links: two digits for each one, of base 12, with spaces between them.
func links(text string) []api.ListLink {
	var l []api.ListLink
	for _, x := range strings.Fields(text) {
		n, _ := strconv.ParseInt(x, 12, 64)
		l = append(l, api.ListLink{Left: int(n) / 12, Right: int(n) % 12})
	}
	return l
}

// sheet returns a sheet.
func sheet(left, right int, text string, known ...int) api.ListSheet {
	return api.ListSheet{Left: left, Right: right, Links: links(text), Known: known}
}

// cover returns a cover: the digits of its items, of base 12.
func cover(left, right string) api.ListCover {
	return api.ListCover{Left: items(left), Right: items(right)}
}

// items reads the digits of items.
func items(text string) []int {
	var l []int
	for _, r := range text {
		n, _ := strconv.ParseInt(string(r), 12, 64)
		l = append(l, int(n))
	}
	return l
}

// chapter returns the sheet S of the chapter.
func chapter() api.ListSheet { return sheet(3, 3, "00 01 10 21 22") }

// doubtful returns the sheet S of the chapter without the link 2.
func doubtful() api.ListSheet { return sheet(3, 3, "00 01 21 22") }

// grid returns all links of so many left items with so many right ones.
func grid(left, right int) []api.ListLink {
	var l []api.ListLink
	for i := range left {
		for k := range right {
			l = append(l, api.ListLink{Left: i, Right: k})
		}
	}
	return l
}

// errors returns the errors of all functions with a sheet, of which each other argument is wrong as well.
func errors(s api.ListSheet) []api.Errno {
	_, b := list.Greatest(s)
	_, c := list.CheckCover(s, api.ListCover{Left: []int{-1}, Right: []int{-1}})
	_, d := list.Cover(s)
	_, e := list.Kinds(s)
	_, f := list.Items(s, false)
	_, g := list.Items(s, true)
	_, _, h := list.Ask(s)
	return []api.Errno{list.CheckSheet(s), list.CheckJoining(s, []int{-1}), b, c, d, e, f, g, h}
}

// P5.1: valid sheets, and the errors in their order, which all functions return before their own.
func TestSheet(t *testing.T) {
	full := api.ListSheet{Left: 12, Right: 12, Links: grid(10, 4)}
	many := api.ListSheet{Left: 12, Right: 12, Links: grid(12, 4)[:41]}
	twice := api.ListSheet{Left: 10, Right: 4, Links: append(grid(10, 4)[:39], api.ListLink{})}
	manyBad := api.ListSheet{Left: 1, Right: 1, Links: slices.Repeat([]api.ListLink{{Left: -1}}, 41), Known: []int{-1}}
	for i, x := range []struct {
		s api.ListSheet
		e api.Errno
	}{
		{chapter(), api.OK},
		{sheet(1, 1, ""), api.OK},
		{sheet(1, 1, "00"), api.OK},
		{sheet(1, 1, "00", 0), api.OK},
		{sheet(12, 12, "BB 00"), api.OK},
		{sheet(1, 12, "0B"), api.OK},
		{sheet(12, 1, "B0"), api.OK},
		{sheet(2, 2, "01 10"), api.OK},
		{full, api.OK},
		{sheet(3, 3, "00 01 10 21 22", 1, 2, 4), api.OK},
		{sheet(3, 3, "00 01 10 21 22", 4), api.OK},
		{sheet(0, 1, ""), api.ErrArg},
		{sheet(1, 0, ""), api.ErrArg},
		{sheet(13, 1, ""), api.ErrArg},
		{sheet(1, 13, ""), api.ErrArg},
		{sheet(-1, 1, ""), api.ErrArg},
		{sheet(1, -1, ""), api.ErrArg},
		{sheet(math.MinInt, 1, ""), api.ErrArg},
		{sheet(1, math.MaxInt, ""), api.ErrArg},
		{api.ListSheet{}, api.ErrArg},
		{api.ListSheet{Left: 13, Right: 1, Links: manyBad.Links, Known: []int{-1}}, api.ErrArg},
		{api.ListSheet{Left: 1, Right: 0, Links: links("00 00"), Known: []int{-1}}, api.ErrArg},
		{many, api.ErrMany},
		{manyBad, api.ErrMany},
		{sheet(2, 2, "02"), api.ErrRange},
		{sheet(2, 2, "20"), api.ErrRange},
		{sheet(2, 3, "20"), api.ErrRange},
		{sheet(3, 2, "02"), api.ErrRange},
		{sheet(2, 2, "00 11 22"), api.ErrRange},
		{sheet(2, 2, "00 00 02", -1), api.ErrRange},
		{api.ListSheet{Left: 2, Right: 2, Links: []api.ListLink{{Left: -1}}}, api.ErrRange},
		{api.ListSheet{Left: 2, Right: 2, Links: []api.ListLink{{Right: -1}}}, api.ErrRange},
		{api.ListSheet{Left: 2, Right: 2, Links: []api.ListLink{{Left: math.MinInt, Right: math.MaxInt}}}, api.ErrRange},
		{twice, api.ErrHave},
		{sheet(2, 2, "00 00"), api.ErrHave},
		{sheet(2, 2, "01 10 01"), api.ErrHave},
		{sheet(2, 2, "01 10 01", 0, 2), api.ErrHave},
		{sheet(2, 2, "01 10 10", 5), api.ErrHave},
		{sheet(3, 3, "00 01 10 21 22", 5), api.ErrRule},
		{sheet(3, 3, "00 01 10 21 22", -1), api.ErrRule},
		{sheet(3, 3, "00 01 10 21 22", 2, 1), api.ErrRule},
		{sheet(3, 3, "00 01 10 21 22", 2, 2), api.ErrRule},
		{sheet(3, 3, "00 01 10 21 22", 0, 1), api.ErrRule},
		{sheet(3, 3, "00 01 10 21 22", 0, 2), api.ErrRule},
		{sheet(3, 3, "00 01 10 21 22", 1, 2, 3), api.ErrRule},
		{sheet(3, 3, "00 01 10 21 22", math.MinInt), api.ErrRule},
		{sheet(3, 3, "00 01 10 21 22", 0, math.MaxInt), api.ErrRule},
		{sheet(1, 1, "", 0), api.ErrRule},
	} {
		if e := list.CheckSheet(x.s); e != x.e {
			t.Error(i, e)
		}
		if x.e == api.OK {
			continue
		}
		if got := errors(x.s); !slices.Equal(got, slices.Repeat([]api.Errno{x.e}, 9)) {
			t.Error(i, got)
		}
	}
}

// P5.2: joinings, and lists that are none.
func TestCheckJoining(t *testing.T) {
	s, known := chapter(), sheet(3, 3, "00 01 10 21 22", 1)
	for i, x := range []struct {
		s api.ListSheet
		l []int
		e api.Errno
	}{
		{s, []int{1, 2, 4}, api.OK},
		{s, []int{0, 3}, api.OK},
		{s, []int{0, 4}, api.OK},
		{s, []int{2, 3}, api.OK},
		{s, []int{4}, api.OK},
		{s, nil, api.OK},
		{s, []int{0, 2}, api.ErrRule},
		{s, []int{0, 1}, api.ErrRule},
		{s, []int{1, 3}, api.ErrRule},
		{s, []int{3, 4}, api.ErrRule},
		{s, []int{1, 2, 3}, api.ErrRule},
		{s, []int{0, 1, 2, 3, 4}, api.ErrRule},
		{s, []int{0, 5}, api.ErrRange},
		{s, []int{0, 2, 5}, api.ErrRange},
		{s, []int{-1}, api.ErrRange},
		{s, []int{2, 1, 4}, api.ErrRange},
		{s, []int{1, 1}, api.ErrRange},
		{s, []int{0, 2, 2}, api.ErrRange},
		{s, []int{0, math.MaxInt}, api.ErrRange},
		{s, []int{math.MinInt, 0}, api.ErrRange},
		{s, make([]int, 5000), api.ErrRange},
		{known, []int{1, 2, 4}, api.OK},
		{known, []int{1}, api.OK},
		{known, []int{2, 4}, api.ErrRule},
		{known, []int{0, 4}, api.ErrRule},
		{known, nil, api.ErrRule},
		{known, []int{0, 1}, api.ErrRule},
		{known, []int{2, 1}, api.ErrRange},
		{known, []int{5}, api.ErrRange},
		{sheet(3, 3, "00 01 10 21 22", 2, 4), []int{1, 2, 4}, api.OK},
		{sheet(3, 3, "00 01 10 21 22", 2, 4), []int{2, 4}, api.OK},
		{sheet(3, 3, "00 01 10 21 22", 2, 4), []int{1, 4}, api.ErrRule},
		// Two links with the same numbers on other sides have no item in common.
		{sheet(2, 2, "01 10"), []int{0, 1}, api.OK},
		{sheet(1, 1, ""), nil, api.OK},
		{sheet(1, 1, ""), []int{0}, api.ErrRange},
	} {
		if e := list.CheckJoining(x.s, x.l); e != x.e {
			t.Error(i, e)
		}
	}
}

// P5.4: covers with their sizes, and items that are none.
func TestCheckCover(t *testing.T) {
	s, known := chapter(), sheet(3, 3, "00 01 10 21 22", 1)
	for i, x := range []struct {
		s    api.ListSheet
		c    api.ListCover
		size int
		e    api.Errno
	}{
		{s, cover("012", ""), 3, api.OK},
		{s, cover("", "012"), 3, api.OK},
		{s, cover("02", "0"), 3, api.OK},
		{s, cover("2", "01"), 3, api.OK},
		{s, cover("012", "012"), 6, api.OK},
		{s, cover("2", "0"), 0, api.ErrSum},
		{s, cover("01", "1"), 0, api.ErrSum},
		{s, cover("0", "02"), 0, api.ErrSum},
		{s, cover("", ""), 0, api.ErrSum},
		{s, cover("12", ""), 0, api.ErrSum},
		{s, cover("", "12"), 0, api.ErrSum},
		{s, cover("013", ""), 0, api.ErrRange},
		{s, cover("", "03"), 0, api.ErrRange},
		{s, cover("0122", ""), 0, api.ErrRange},
		{s, cover("021", ""), 0, api.ErrRange},
		{s, cover("", "0122"), 0, api.ErrRange},
		{s, cover("2", "3"), 0, api.ErrRange},
		{s, cover("012", "10"), 0, api.ErrRange},
		{s, api.ListCover{Left: []int{-1}, Right: []int{0, 1, 2}}, 0, api.ErrRange},
		{s, api.ListCover{Left: []int{0, 1, 2}, Right: []int{-1}}, 0, api.ErrRange},
		{s, api.ListCover{Left: []int{math.MinInt, math.MaxInt}}, 0, api.ErrRange},
		{s, api.ListCover{Right: make([]int, 5000)}, 0, api.ErrRange},
		// Just the links 2 and 4 have no item in common with the link 1.
		{known, cover("12", ""), 3, api.OK},
		{known, cover("1", "2"), 3, api.OK},
		{known, cover("", "02"), 3, api.OK},
		{known, cover("0", "02"), 4, api.OK},
		{known, cover("2", "1"), 0, api.ErrSum},
		{known, cover("", ""), 0, api.ErrSum},
		{known, cover("0", "1"), 0, api.ErrSum},
		{sheet(3, 3, "00 01 10 21 22", 1, 2, 4), cover("", ""), 3, api.OK},
		{sheet(1, 1, "00", 0), cover("0", "0"), 3, api.OK},
		{sheet(1, 1, ""), cover("", ""), 0, api.OK},
		{sheet(1, 2, ""), cover("", "1"), 1, api.OK},
		{sheet(1, 2, ""), cover("1", ""), 0, api.ErrRange},
		{sheet(2, 1, ""), cover("1", ""), 1, api.OK},
		{sheet(2, 1, ""), cover("", "1"), 0, api.ErrRange},
		{sheet(12, 12, "BB"), cover("B", ""), 1, api.OK},
		{sheet(12, 12, "0B"), cover("", "B"), 1, api.OK},
		{sheet(12, 12, "0B"), cover("B", "0"), 0, api.ErrSum},
	} {
		if size, e := list.CheckCover(x.s, x.c); size != x.size || e != x.e {
			t.Error(i, size, e)
		}
	}
}
