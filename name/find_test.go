package name_test

import (
	"reflect"
	"slices"
	"strings"
	"testing"

	"mandrel/api"
	"mandrel/name"
)

// checkFound checks what Least, Sides and Flow find of a list.
func checkFound(t *testing.T, l api.NameList, least string, cost int64, sides string) {
	t.Helper()
	if side, n, e := name.Least(l); !slices.Equal(side, numbers(least)) || n != cost || e != api.OK {
		t.Error(l, side, n, e)
	}
	if s, e := name.Sides(l); !slices.Equal(s, numbers(sides)) || e != api.OK {
		t.Error(l, s, e)
	}
	if great := greatOf(t, l); great != cost {
		t.Error(l, great)
	}
}

// greatOf returns how great the flow of Flow is, which is right.
func greatOf(t *testing.T, l api.NameList) int64 {
	t.Helper()
	f, e := name.Flow(l)
	if e != api.OK {
		t.Fatal(l, f, e)
	}
	great, e := name.CheckFlow(l, f)
	if e != api.OK {
		t.Fatal(l, f, e)
	}
	return great
}

// checkGroups checks what Groups returns: groups of names with commas between them.
func checkGroups(t *testing.T, l api.NameList, drop []int, text string) {
	t.Helper()
	var want [][]int
	for group := range strings.SplitSeq(text, ",") {
		want = append(want, numbers(group))
	}
	if got, e := name.Groups(l, drop); !reflect.DeepEqual(got, want) || e != api.OK {
		t.Error(l, drop, got, e)
	}
}

// The chapter's examples.
func TestExamples(t *testing.T) {
	l := chapter()
	checkGroups(t, l, numbers("0 2"), "0, 1 2 3 4")
	checkGroups(t, l, upTo(6), "0, 1, 2, 3, 4")
	if name.CheckChain(l, numbers("0"), numbers("0 2 4")) != api.OK || name.CheckChain(l, numbers("0"), numbers("0 1 4")) != api.ErrSum {
		t.Error("chains")
	}
	if chain, e := name.Chain(l, numbers("0 2")); chain != nil || e != api.ErrNone {
		t.Error(chain, e)
	}
	checkCut(t, l, "0", "0 2", 5)
	checkCut(t, l, "0 1", "1 2 4", 5)
	checkCut(t, l, "0 1 2", "1 3", 6)
	// Example 6 of DOC.md as well: links that cost 5 are dropped.
	checkFound(t, l, "0", 5, "1 0 -1 -1 -1")
	if great, e := name.CheckFlow(l, flow("3 2 2 3 1 0")); great != 5 || e != api.OK {
		t.Error(great, e)
	}
	if great, e := name.CheckFlow(l, flow("3 3 2 2 0 0")); great != 0 || e != api.ErrSum {
		t.Error(great, e)
	}
}

// checkCut checks what a side cuts, and what it costs.
func checkCut(t *testing.T, l api.NameList, side, cut string, cost int64) {
	t.Helper()
	if links, n, e := name.Cut(l, numbers(side)); !slices.Equal(links, numbers(cut)) || n != cost || e != api.OK {
		t.Error(l, side, links, n, e)
	}
}

// P6.2: groups by rising least names.
func TestGroups(t *testing.T) {
	l := chapter()
	checkGroups(t, l, nil, "0 1 2 3 4")
	checkGroups(t, l, numbers("5"), "0 1 2 4, 3")
	checkGroups(t, l, numbers("1 3"), "0 1 2, 3 4")
	checkGroups(t, l, numbers("0 1 3"), "0 1 2, 3 4")
	checkGroups(t, l, numbers("2 3 4"), "0 1 3 4, 2")
	checkGroups(t, l, numbers("0 1 4"), "0 2 3 4, 1")
	checkGroups(t, list(2, "", "0", "1"), nil, "0, 1")
	// What is in Left and in Right does not matter.
	checkGroups(t, list(6, "5 0 1, 4 1 1, 3 1 1", "1", "2"), nil, "0 5, 1 3 4, 2")
	checkGroups(t, list(6, "5 0 1, 4 1 1, 3 1 1", "0 5", "1 2"), nil, "0 5, 1 3 4, 2")
	checkGroups(t, list(6, "5 0 1, 4 1 1, 3 1 1", "0 5", "1 2"), numbers("1"), "0 5, 1 3, 2, 4")
	checkGroups(t, list(4, "3 2 1, 2 1 1, 1 0 1", "0", "1"), nil, "0 1 2 3")
	checkGroups(t, list(4, "3 2 1, 2 1 1, 1 0 1", "0", "1"), numbers("1"), "0 1, 2 3")
	checkGroups(t, list(3, "0 1 1, 1 0 1", "0", "2"), numbers("0"), "0 1, 2")
	checkGroups(t, list(3, "0 1 1, 1 0 1", "0", "2"), numbers("0 1"), "0, 1, 2")
	if groups, e := name.Groups(full(), nil); len(groups) != 1 || !slices.Equal(groups[0], upTo(40)) || e != api.OK {
		t.Error(groups, e)
	}
	if groups, e := name.Groups(full(), upTo(120)); len(groups) != 40 || !slices.Equal(groups[39], numbers("39")) || e != api.OK {
		t.Error(groups, e)
	}
}

// P6.3: a chain if there is one.
func TestChain(t *testing.T) {
	row := api.NameList{Names: 40, Links: ring(40, 39, 1), Left: []int{0}, Right: []int{39}}
	back := api.NameList{Names: 40, Links: ring(40, 39, 1), Left: []int{39}, Right: []int{0}}
	two := list(6, "0 2 1, 2 4 1, 1 3 1, 3 5 1, 2 3 1, 0 1 1, 5 4 1", "0 1", "4 5")
	for i, x := range []struct {
		l    api.NameList
		drop string
		some bool
	}{
		{chapter(), "", true},
		{chapter(), "0", true},
		{chapter(), "0 1 4 5", true},
		{chapter(), "0 3", true},
		{chapter(), "0 3 4", false},
		{chapter(), "1 3", false},
		{chapter(), "1 2 4", false},
		{chapter(), "0 1 2 3 4 5", false},
		{row, "", true},
		{back, "", true},
		{row, "20", false},
		{back, "38", false},
		{two, "0 2", false},
		{two, "0", true},
		{two, "2", true},
		{two, "0 3", true},
		{two, "0 3 4", false},
		{two, "1 2", true},
		{two, "1 2 4", false},
		{list(2, "", "0", "1"), "", false},
		{list(2, "1 0 1", "0", "1"), "", true},
		{list(2, "1 0 1, 0 1 1", "0", "1"), "1", true},
	} {
		chain, e := name.Chain(x.l, numbers(x.drop))
		if x.some {
			if f := name.CheckChain(x.l, numbers(x.drop), chain); e != api.OK || f != api.OK {
				t.Error(i, chain, e, f)
			}
		} else if chain != nil || e != api.ErrNone {
			t.Error(i, chain, e)
		}
	}
}

// P6.5, P6.6, P6.7: the least one of the cheapest sides with its proof, and the sides of all names.
func TestFound(t *testing.T) {
	for _, x := range []struct {
		l     api.NameList
		least string
		cost  int64
		sides string
	}{
		{list(2, "", "0", "1"), "0", 0, "1 -1"},
		{list(2, "", "1", "0"), "1", 0, "-1 1"},
		// Names without links are on any side.
		{list(4, "", "1", "2"), "1", 0, "0 1 -1 0"},
		{list(5, "0 4 9, 1 0 9", "1", "2"), "0 1 4", 0, "1 1 -1 0 1"},
		{list(5, "0 4 9, 1 0 9", "2", "1"), "2", 0, "-1 -1 1 0 -1"},
		{list(5, "0 4 9", "1", "2"), "1", 0, "0 1 -1 0 0"},
		{list(2, "0 1 7", "0", "1"), "0", 7, "1 -1"},
		{list(2, "0 1 7, 1 0 8, 0 1 1", "1", "0"), "1", 16, "-1 1"},
		// The cheapest link of a row, or any of several ones.
		{list(4, "0 1 5, 1 2 3, 2 3 4", "0", "3"), "0 1", 3, "1 1 -1 -1"},
		{list(4, "1 0 5, 2 1 3, 3 2 4", "0", "3"), "0 1", 3, "1 1 -1 -1"},
		{list(4, "0 1 5, 1 2 3, 2 3 4", "3", "0"), "2 3", 3, "-1 -1 1 1"},
		{list(4, "0 1 3, 1 2 4, 2 3 3", "0", "3"), "0", 3, "1 0 0 -1"},
		{list(4, "0 1 3, 1 2 3, 2 3 3", "3", "0"), "3", 3, "-1 0 0 1"},
		{list(5, "0 1 9, 1 2 3, 2 3 3, 3 4 9", "0", "4"), "0 1", 3, "1 1 0 -1 -1"},
		// Names of Left have no other way to each other.
		{list(5, "0 2 5, 1 3 5, 2 4 2, 3 4 6", "0 1", "4"), "0 1 2", 7, "1 1 1 -1 -1"},
		{list(4, "0 1 9, 2 3 9, 1 2 4", "0 1", "2 3"), "0 1", 4, "1 1 -1 -1"},
		{list(5, "0 2 1, 1 2 1, 2 3 2, 2 4 2", "0 1", "3 4"), "0 1", 2, "1 1 -1 -1 -1"},
		{list(5, "0 2 1, 1 2 1, 2 3 1, 2 4 1", "0 1", "3 4"), "0 1", 2, "1 1 0 -1 -1"},
		// A flow has to be taken back from the link between 1 and 2.
		{list(4, "0 1 1, 1 2 1, 2 3 1, 0 2 1, 1 3 1", "0", "3"), "0", 2, "1 0 0 -1"},
		{list(6, "0 1 1, 1 2 1, 2 5 1, 0 3 1, 3 2 1, 1 4 1, 4 5 1", "0", "5"), "0", 2, "1 0 0 0 0 -1"},
		// Three ways that have links in common; the name 4 may be on any side.
		{list(6, "0 1 7, 2 1 2, 2 5 7, 0 2 1, 1 3 2, 3 5 9, 0 4 3, 4 3 3", "0", "5"), "0 1", 8, "1 1 -1 -1 0 -1"},
	} {
		checkFound(t, x.l, x.least, x.cost, x.sides)
	}
}

// P6.5, P6.6, P6.7: lists at all limits.
func TestFull(t *testing.T) {
	l := full()
	sides := append(append(slices.Repeat([]int{1}, 10), make([]int, 20)...), slices.Repeat([]int{-1}, 10)...)
	if side, cost, e := name.Least(l); !slices.Equal(side, upTo(10)) || cost != 6*api.MaxNameTrust || e != api.OK {
		t.Error(side, cost, e)
	}
	if s, e := name.Sides(l); !slices.Equal(s, sides) || e != api.OK {
		t.Error(s, e)
	}
	if great := greatOf(t, l); great != 6*api.MaxNameTrust {
		t.Error(great)
	}
	l.Names, l.Links, l.Left, l.Right = 2, slices.Repeat(links("1 0 1000000"), 120), []int{0}, []int{1}
	if side, cost, e := name.Least(l); !slices.Equal(side, []int{0}) || cost != 120*api.MaxNameTrust || e != api.OK {
		t.Error(side, cost, e)
	}
	if great := greatOf(t, l); great != 120*api.MaxNameTrust {
		t.Error(great)
	}
}
