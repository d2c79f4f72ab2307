package name_test

import (
	"math"
	"slices"
	"strconv"
	"strings"
	"testing"

	"mandrel/api"
	"mandrel/name"
)

// numbers reads whole numbers with spaces between them.
func numbers(text string) []int {
	var l []int
	for _, x := range strings.Fields(text) {
		n, _ := strconv.Atoi(x)
		l = append(l, n)
	}
	return l
}

// links reads links: two names and the Trust of each one, with commas between them.
func links(text string) []api.NameLink {
	var l []api.NameLink
	for x := range strings.SplitSeq(text, ",") {
		if n := numbers(x); len(n) == 3 {
			l = append(l, api.NameLink{One: n[0], Two: n[1], Trust: int64(n[2])})
		}
	}
	return l
}

// list returns a list.
func list(names int, text, left, right string) api.NameList {
	return api.NameList{Names: names, Links: links(text), Left: numbers(left), Right: numbers(right)}
}

// chapter returns the list L of the chapter.
func chapter() api.NameList {
	return list(5, "0 1 3, 1 4 2, 0 2 2, 2 4 4, 1 2 1, 3 4 1", "0", "4")
}

// flow reads a flow.
func flow(text string) api.NameFlow {
	var f api.NameFlow
	for _, n := range numbers(text) {
		f = append(f, int64(n))
	}
	return f
}

// upTo returns the numbers from 0 to count - 1.
func upTo(count int) []int {
	var l []int
	for n := range count {
		l = append(l, n)
	}
	return l
}

// ring returns so many links around so many names, that have this Trust.
func ring(names, count int, trust int64) []api.NameLink {
	var l []api.NameLink
	for link := range count {
		l = append(l, api.NameLink{One: link % names, Two: (link + 1) % names, Trust: trust})
	}
	return l
}

// full returns a list with as much of all as a list can have.
func full() api.NameList {
	l := upTo(api.MaxNameNames)
	return api.NameList{
		Names: api.MaxNameNames,
		Links: ring(api.MaxNameNames, api.MaxNameLinks, api.MaxNameTrust),
		Left:  l[:api.MaxNameEnds],
		Right: l[api.MaxNameNames-api.MaxNameEnds:],
	}
}

// errors returns the errors of all functions with a list, of which each other argument is wrong as well.
func errors(l api.NameList) []api.Errno {
	drop, names := []int{-1}, []int{-1}
	_, a := name.Groups(l, drop)
	_, b := name.Chain(l, drop)
	_, _, c := name.Cut(l, names)
	_, _, d := name.Least(l)
	_, e := name.Flow(l)
	_, f := name.CheckFlow(l, make(api.NameFlow, 7))
	_, g := name.Sides(l)
	return []api.Errno{name.CheckList(l), name.CheckChain(l, drop, names), a, b, c, d, e, f, g}
}

// P6.1: valid lists, and the errors in their order, which all functions return before their own.
func TestList(t *testing.T) {
	for i, x := range []struct {
		l api.NameList
		e api.Errno
	}{
		{chapter(), api.OK},
		{full(), api.OK},
		{list(2, "", "0", "1"), api.OK},
		{list(2, "", "1", "0"), api.OK},
		{list(2, "0 1 1, 1 0 1000000, 0 1 1", "1", "0"), api.OK},
		{list(40, "39 0 1, 0 39 1", "39", "0"), api.OK},
		{list(20, "", "0 1 2 3 4 5 6 7 8 9", "10 11 12 13 14 15 16 17 18 19"), api.OK},
		{list(4, "", "0 3", "1 2"), api.OK},
		{api.NameList{}, api.ErrMany},
		{list(1, "", "0", "0"), api.ErrMany},
		{list(0, "", "0", "1"), api.ErrMany},
		{list(-1, "", "0", "1"), api.ErrMany},
		{list(math.MinInt, "", "0", "1"), api.ErrMany},
		{list(41, "", "0", "1"), api.ErrMany},
		{list(math.MaxInt, "", "0", "1"), api.ErrMany},
		{api.NameList{Names: 40, Links: ring(40, 121, 1), Left: []int{0}, Right: []int{1}}, api.ErrMany},
		{list(2, "", "", "1"), api.ErrMany},
		{list(2, "", "0", ""), api.ErrMany},
		{list(40, "", "0 1 2 3 4 5 6 7 8 9 10", "11"), api.ErrMany},
		{list(40, "", "11", "0 1 2 3 4 5 6 7 8 9 10"), api.ErrMany},
		// ErrMany before all others, of whatever there are too many.
		{list(1, "0 0 0", "0 0", "5"), api.ErrMany},
		{api.NameList{Names: 2, Links: make([]api.NameLink, 121), Left: []int{-1}, Right: []int{-1}}, api.ErrMany},
		{list(2, "0 0 0", "", "5"), api.ErrMany},
		{list(2, "0 0 0", "5", ""), api.ErrMany},
		{api.NameList{Names: 2, Links: links("0 2 1"), Left: make([]int, 11), Right: []int{0}}, api.ErrMany},
		{api.NameList{Names: 2, Links: links("0 2 1"), Left: []int{0}, Right: make([]int, 11)}, api.ErrMany},
		{list(2, "0 0 1", "0", "1"), api.ErrArg},
		{list(2, "1 1 1", "0", "1"), api.ErrArg},
		{list(2, "0 2 1", "0", "1"), api.ErrArg},
		{list(2, "2 0 1", "0", "1"), api.ErrArg},
		{list(2, "0 -1 1", "0", "1"), api.ErrArg},
		{list(2, "-1 0 1", "0", "1"), api.ErrArg},
		{list(2, "0 1 0", "0", "1"), api.ErrArg},
		{list(2, "0 1 -1", "0", "1"), api.ErrArg},
		{list(2, "0 1 1000001", "0", "1"), api.ErrArg},
		{list(2, "0 1 9223372036854775807", "0", "1"), api.ErrArg},
		{list(2, "0 1 1, 1 0 1, 0 1 0", "0", "1"), api.ErrArg},
		{api.NameList{Names: 2, Links: []api.NameLink{{One: math.MinInt, Two: math.MaxInt, Trust: math.MinInt64}}, Left: []int{0}, Right: []int{1}}, api.ErrArg},
		{list(2, "0 1 0", "2", "1"), api.ErrArg},
		{list(2, "0 1 1, 0 0 1", "1", "1"), api.ErrArg},
		{list(3, "0 1 1", "0 0", "1"), api.ErrRange},
		{list(3, "0 1 1", "1 0", "2"), api.ErrRange},
		{list(3, "0 1 1", "0", "2 1"), api.ErrRange},
		{list(3, "0 1 1", "0", "1 1"), api.ErrRange},
		{list(3, "0 1 1", "3", "1"), api.ErrRange},
		{list(3, "0 1 1", "0", "3"), api.ErrRange},
		{list(3, "0 1 1", "-1", "1"), api.ErrRange},
		{list(3, "0 1 1", "0", "-1"), api.ErrRange},
		{list(3, "0 1 1", "0 1 3", "2"), api.ErrRange},
		{list(3, "0 1 1", "0 2", "-1 1"), api.ErrRange},
		{list(3, "0 1 1", "1", "1 3"), api.ErrRange},
		{list(3, "0 1 1", "1 1", "1"), api.ErrRange},
		{api.NameList{Names: 3, Left: []int{math.MinInt}, Right: []int{math.MaxInt}}, api.ErrRange},
		{list(3, "0 1 1", "1", "1"), api.ErrClash},
		{list(3, "0 1 1", "0 1", "1 2"), api.ErrClash},
		{list(3, "0 1 1", "0 2", "1 2"), api.ErrClash},
		{list(3, "0 1 1", "0 1 2", "0"), api.ErrClash},
		{list(3, "0 1 1", "2", "0 1 2"), api.ErrClash},
	} {
		if e := name.CheckList(x.l); e != x.e {
			t.Error(i, e)
		}
		if x.e == api.OK {
			continue
		}
		if got := errors(x.l); !slices.Equal(got, slices.Repeat([]api.Errno{x.e}, 9)) {
			t.Error(i, got)
		}
	}
}

// P6.2, P6.3: what is not a drop, which comes before all else that is wrong.
func TestDrop(t *testing.T) {
	l := chapter()
	for _, drop := range [][]int{{-1}, {6}, {0, 6}, {1, 0}, {0, 0}, {0, 2, 2}, {math.MinInt}, {0, math.MaxInt}, make([]int, 5000)} {
		if groups, e := name.Groups(l, drop); groups != nil || e != api.ErrRange {
			t.Error(drop, groups, e)
		}
		if chain, e := name.Chain(l, drop); chain != nil || e != api.ErrRange {
			t.Error(drop, chain, e)
		}
		for _, chain := range [][]int{{0, 1, 4}, nil, {0}, {0, 4}, {0, 1, 5}, make([]int, 41)} {
			if e := name.CheckChain(l, drop, chain); e != api.ErrRange {
				t.Error(drop, chain, e)
			}
		}
	}
	if _, e := name.Groups(list(2, "", "0", "1"), []int{0}); e != api.ErrRange {
		t.Error(e)
	}
}

// P6.3: chains, and lists of names that are none.
func TestCheckChain(t *testing.T) {
	l := chapter()
	two := list(6, "0 2 1, 2 4 1, 1 3 1, 3 5 1, 2 3 1, 0 1 1, 5 4 1", "0 1", "4 5")
	for i, x := range []struct {
		l     api.NameList
		drop  []int
		chain []int
		e     api.Errno
	}{
		{l, nil, numbers("0 1 4"), api.OK},
		{l, nil, numbers("0 2 4"), api.OK},
		{l, nil, numbers("0 1 2 4"), api.OK},
		{l, nil, numbers("0 2 1 4"), api.OK},
		{l, numbers("0"), numbers("0 2 4"), api.OK},
		{l, numbers("0"), numbers("0 2 1 4"), api.OK},
		{l, numbers("0 1 5"), numbers("0 2 4"), api.OK},
		{l, numbers("0"), numbers("0 1 4"), api.ErrSum},
		{l, numbers("1"), numbers("0 1 4"), api.ErrSum},
		{l, numbers("4"), numbers("0 1 2 4"), api.ErrSum},
		{l, upTo(6), numbers("0 1 4"), api.ErrSum},
		// Names may be in a chain more than once, also those of Left and Right.
		{l, nil, numbers("0 1 0 2 4"), api.OK},
		{l, nil, numbers("0 1 4 3 4"), api.OK},
		{l, nil, append(slices.Repeat([]int{0, 1}, 19), 2, 4), api.OK},
		{l, nil, append(slices.Repeat([]int{0, 1}, 19), 0, 4), api.ErrSum},
		{l, nil, append(slices.Repeat([]int{0, 1}, 20), 4), api.ErrMany},
		{l, nil, slices.Repeat([]int{-1}, 41), api.ErrMany},
		{l, nil, make([]int, 5000), api.ErrMany},
		{l, nil, nil, api.ErrMany},
		{l, nil, numbers("0"), api.ErrMany},
		{l, nil, numbers("9"), api.ErrMany},
		{l, nil, numbers("0 5"), api.ErrRange},
		{l, nil, numbers("-1 4"), api.ErrRange},
		{l, nil, numbers("4 0 5"), api.ErrRange},
		{l, nil, []int{0, math.MaxInt, 4}, api.ErrRange},
		{l, nil, []int{0, math.MinInt, 4}, api.ErrRange},
		{l, nil, numbers("0 4"), api.ErrSum},
		{l, nil, numbers("0 3 4"), api.ErrSum},
		{l, nil, numbers("0 1 1 4"), api.ErrSum},
		{l, nil, numbers("4 1 0"), api.ErrSum},
		{l, nil, numbers("0 1"), api.ErrSum},
		{l, nil, numbers("1 4"), api.ErrSum},
		{l, nil, numbers("0 1 0"), api.ErrSum},
		{l, nil, numbers("4 1 4"), api.ErrSum},
		{two, nil, numbers("0 2 4"), api.OK},
		{two, nil, numbers("0 2 3 5"), api.OK},
		{two, nil, numbers("1 3 2 4"), api.OK},
		{two, nil, numbers("0 1 3 5 4"), api.OK},
		{two, numbers("4"), numbers("0 2 3 5"), api.ErrSum},
		{two, nil, numbers("0 1"), api.ErrSum},
		{two, nil, numbers("4 5"), api.ErrSum},
		{two, nil, numbers("2 3 5"), api.ErrSum},
		// Of two links between the same names one is enough.
		{list(2, "0 1 1, 1 0 2", "0", "1"), numbers("0"), numbers("0 1"), api.OK},
		{list(2, "0 1 1, 1 0 2", "0", "1"), numbers("1"), numbers("0 1"), api.OK},
		{list(2, "0 1 1, 1 0 2", "0", "1"), numbers("0 1"), numbers("0 1"), api.ErrSum},
		{list(2, "", "0", "1"), nil, numbers("0 1"), api.ErrSum},
	} {
		if e := name.CheckChain(x.l, x.drop, x.chain); e != x.e {
			t.Error(i, e)
		}
	}
}

// P6.4: sides with what they cut and cost, and lists of names that are none.
func TestCut(t *testing.T) {
	l := chapter()
	two := list(6, "0 2 1, 4 2 10, 1 3 100, 5 3 1000, 2 3 10000, 0 1 100000, 5 4 1000000", "0 1", "4 5")
	for i, x := range []struct {
		l    api.NameList
		side []int
		cut  string
		cost int64
		e    api.Errno
	}{
		{l, numbers("0"), "0 2", 5, api.OK},
		{l, numbers("0 1"), "1 2 4", 5, api.OK},
		{l, numbers("0 1 2"), "1 3", 6, api.OK},
		{l, numbers("0 2"), "0 3 4", 8, api.OK},
		{l, numbers("0 3"), "0 2 5", 6, api.OK},
		{l, numbers("0 1 2 3"), "1 3 5", 7, api.OK},
		{two, numbers("0 1"), "0 2", 101, api.OK},
		{two, numbers("0 1 2"), "1 2 4", 10110, api.OK},
		{two, numbers("0 1 3"), "0 3 4", 11001, api.OK},
		{two, numbers("0 1 2 3"), "1 3", 1010, api.OK},
		{list(2, "", "1", "0"), numbers("1"), "", 0, api.OK},
		{list(3, "0 2 1", "1", "0"), numbers("1"), "", 0, api.OK},
		{list(2, "0 1 3, 1 0 4, 0 1 5", "1", "0"), numbers("1"), "0 1 2", 12, api.OK},
		{l, numbers("0 0"), "", 0, api.ErrRange},
		{l, numbers("1 0"), "", 0, api.ErrRange},
		{l, numbers("0 5"), "", 0, api.ErrRange},
		{l, numbers("-1 0"), "", 0, api.ErrRange},
		{l, numbers("4 3"), "", 0, api.ErrRange},
		{l, []int{math.MinInt, 0}, "", 0, api.ErrRange},
		{l, []int{0, math.MaxInt}, "", 0, api.ErrRange},
		{l, make([]int, 5000), "", 0, api.ErrRange},
		{l, nil, "", 0, api.ErrRule},
		{l, numbers("1 2"), "", 0, api.ErrRule},
		{l, numbers("0 4"), "", 0, api.ErrRule},
		{l, numbers("0 1 2 3 4"), "", 0, api.ErrRule},
		{l, numbers("4"), "", 0, api.ErrRule},
		{two, numbers("0 2 3"), "", 0, api.ErrRule},
		{two, numbers("1 2 3"), "", 0, api.ErrRule},
		{two, numbers("0 1 5"), "", 0, api.ErrRule},
		{two, numbers("0 1 4"), "", 0, api.ErrRule},
	} {
		if cut, cost, e := name.Cut(x.l, x.side); !slices.Equal(cut, numbers(x.cut)) || cost != x.cost || e != x.e {
			t.Error(i, cut, cost, e)
		}
	}
}

// P6.6: right flows, and numbers that are none.
func TestCheckFlow(t *testing.T) {
	l := chapter()
	two := list(6, "0 2 5, 4 2 5, 1 3 5, 5 3 5, 2 3 5, 0 1 5, 5 4 5", "0 1", "4 5")
	for i, x := range []struct {
		l     api.NameList
		f     api.NameFlow
		great int64
		e     api.Errno
	}{
		{l, flow("3 2 2 3 1 0"), 5, api.OK},
		{l, flow("0 0 0 0 0 0"), 0, api.OK},
		{l, flow("2 2 2 2 0 0"), 4, api.OK},
		{l, flow("-3 -2 -2 -3 -1 0"), -5, api.OK},
		{l, flow("1 0 -1 0 1 0"), 0, api.OK},
		{l, flow("0 1 0 -1 -1 0"), 0, api.OK},
		{l, flow("3 3 2 2 0 0"), 0, api.ErrSum},
		{l, flow("4 2 2 4 2 0"), 0, api.ErrSum},
		{l, flow("-3 -2 -2 -3 -2 0"), 0, api.ErrSum},
		{l, flow("3 2 2 3 1 1"), 0, api.ErrSum},
		{l, flow("3 2 2 3 1 -1"), 0, api.ErrSum},
		{l, flow("3 2 2 3 0 0"), 0, api.ErrSum},
		{l, flow("3 2 2 4 1 0"), 0, api.ErrSum},
		{l, flow("0 0 0 0 0 2"), 0, api.ErrSum},
		// What flows in at one name does not make up for what flows out at another one.
		{l, flow("1 0 0 1 0 0"), 0, api.ErrSum},
		{l, api.NameFlow{math.MaxInt64, 0, 0, 0, 0, 0}, 0, api.ErrSum},
		{l, api.NameFlow{0, math.MinInt64, 0, 0, 0, 0}, 0, api.ErrSum},
		{l, flow("3 2 2 3 1"), 0, api.ErrEqual},
		{l, flow("3 2 2 3 1 0 0"), 0, api.ErrEqual},
		{l, flow("9 9 9 9 9 9 9"), 0, api.ErrEqual},
		{l, nil, 0, api.ErrEqual},
		{l, make(api.NameFlow, 5000), 0, api.ErrEqual},
		{two, flow("5 -5 5 -5 0 0 0"), 10, api.OK},
		{two, flow("5 -1 1 -5 4 0 0"), 6, api.OK},
		// What flows between names of Left, or of Right, does not count.
		{two, flow("5 -5 5 -5 0 5 -5"), 10, api.OK},
		{two, flow("5 0 -5 0 5 3 2"), 0, api.OK},
		{two, flow("0 0 0 0 0 5 5"), 0, api.OK},
		{two, flow("0 -5 0 5 -5 0 0"), 0, api.OK},
		{two, flow("0 0 0 0 0 6 0"), 0, api.ErrSum},
		{two, flow("0 0 0 0 0 0 -6"), 0, api.ErrSum},
		{two, flow("5 5 5 5 0 0 0"), 0, api.ErrSum},
		{list(2, "", "0", "1"), nil, 0, api.OK},
		{list(2, "", "0", "1"), flow("0"), 0, api.ErrEqual},
		{list(2, "0 1 7", "0", "1"), flow("7"), 7, api.OK},
		{list(2, "0 1 7", "1", "0"), flow("7"), -7, api.OK},
		{list(2, "0 1 7", "1", "0"), flow("-7"), 7, api.OK},
		{list(2, "0 1 7, 1 0 8", "0", "1"), flow("7 -8"), 15, api.OK},
		{list(2, "0 1 7, 1 0 8", "0", "1"), flow("7 8"), -1, api.OK},
		{list(2, "0 1 7, 1 0 8", "0", "1"), flow("8 -8"), 0, api.ErrSum},
		{list(2, "0 1 7, 1 0 8", "0", "1"), flow("7 -9"), 0, api.ErrSum},
	} {
		if great, e := name.CheckFlow(x.l, x.f); great != x.great || e != x.e {
			t.Error(i, great, e)
		}
	}
}
