package list_test

import (
	"slices"
	"strings"
	"testing"

	"mandrel/api"
	"mandrel/list"
)

// found is what is found of a sheet: how many links a greatest joining has, and the digits of all kinds.
type found struct {
	size               int
	kinds, left, right string
}

// checkFound checks what all functions find of a sheet, except Ask.
func checkFound(t *testing.T, s api.ListSheet, want found) {
	t.Helper()
	checkProof(t, s, want.size)
	if kinds, e := list.Kinds(s); !slices.Equal(kinds, items(want.kinds)) || e != api.OK {
		t.Error(s, kinds, e)
	}
	if kinds, e := list.Items(s, false); !slices.Equal(kinds, items(want.left)) || e != api.OK {
		t.Error(s, kinds, e)
	}
	if kinds, e := list.Items(s, true); !slices.Equal(kinds, items(want.right)) || e != api.OK {
		t.Error(s, kinds, e)
	}
}

// checkProof checks that Greatest returns a joining with so many links, and Cover a cover of this size.
func checkProof(t *testing.T, s api.ListSheet, size int) {
	t.Helper()
	joining, e := list.Greatest(s)
	if len(joining) != size || e != api.OK || list.CheckJoining(s, joining) != api.OK {
		t.Error(s, joining, e)
	}
	c, e := list.Cover(s)
	if e != api.OK {
		t.Error(s, c, e)
	}
	if n, e := list.CheckCover(s, c); n != size || e != api.OK {
		t.Error(s, c, n, e)
	}
}

// The chapter's examples.
func TestExamples(t *testing.T) {
	s, two := chapter(), doubtful()
	if list.CheckJoining(s, []int{1, 2, 4}) != api.OK || list.CheckJoining(s, []int{0, 2}) != api.ErrRule {
		t.Error("joinings")
	}
	checkFound(t, s, found{3, "02202", "222", "222"})
	if size, e := list.CheckCover(s, cover("012", "")); size != 3 || e != api.OK {
		t.Error(size, e)
	}
	if size, e := list.CheckCover(s, cover("2", "0")); size != 0 || e != api.ErrSum {
		t.Error(size, e)
	}
	checkFound(t, two, found{2, "1111", "202", "111"})
	checkAsk(t, two, 0, 2, api.OK)
	checkAsk(t, s, 0, 0, api.ErrNone)
	// Example 5 of DOC.md: by the links 1, 2 and 4, and by no others.
	if joining, e := list.Greatest(s); !slices.Equal(joining, []int{1, 2, 4}) || e != api.OK {
		t.Error(joining, e)
	}
}

// checkAsk checks what Ask returns.
func checkAsk(t *testing.T, s api.ListSheet, name, rest int, e api.Errno) {
	t.Helper()
	if n, r, f := list.Ask(s); n != name || r != rest || f != e {
		t.Error(s, n, r, f)
	}
}

// P5.3, P5.4, P5.5: greatest joinings with their proofs, and the kinds of links and items.
func TestFound(t *testing.T) {
	for _, x := range []struct {
		s    api.ListSheet
		want found
	}{
		{sheet(1, 1, ""), found{0, "", "0", "0"}},
		{sheet(3, 2, ""), found{0, "", "000", "00"}},
		{sheet(1, 1, "00"), found{1, "2", "2", "2"}},
		{sheet(1, 1, "00", 0), found{1, "2", "2", "2"}},
		{sheet(12, 12, "B0 0B"), found{2, "22", "200000000002", "200000000002"}},
		{sheet(1, 3, "00 01 02"), found{1, "111", "2", "111"}},
		{sheet(3, 1, "00 10 20"), found{1, "111", "111", "2"}},
		{sheet(2, 2, "00 01 10 11"), found{2, "1111", "22", "22"}},
		// An item has the kind ListAlways by links each of which has the kind ListMay.
		{sheet(1, 2, "00 01"), found{1, "11", "2", "11"}},
		// With a link that is known: what is beside it is never true, and others become certain.
		{sheet(2, 2, "00 01 10 11", 0), found{2, "2002", "22", "22"}},
		{sheet(1, 3, "00 01 02", 1), found{1, "020", "2", "020"}},
		{sheet(3, 3, "00 01 21 22", 0), found{2, "2011", "202", "211"}},
		{sheet(3, 3, "00 01 21 22", 1), found{2, "0202", "202", "022"}},
		{sheet(3, 3, "00 01 21 22", 0, 3), found{2, "2002", "202", "202"}},
		// A link that is known makes the greatest joining less.
		{sheet(3, 3, "00 01 10 21 22", 0), found{2, "20011", "202", "211"}},
		{sheet(2, 2, "00 01 10", 0), found{1, "200", "20", "20"}},
		{sheet(3, 3, "00 01 10 12 21", 0), found{3, "20022", "222", "222"}},
		// The items of a longer way, at whose ends the one without a partner may be.
		{sheet(3, 2, "00 10 11 21"), found{2, "1111", "111", "22"}},
		{sheet(3, 3, "00 10 11 21 22"), found{3, "20202", "222", "222"}},
		{sheet(4, 4, "00 10 11 21 22 32 33 03"), found{4, "11111111", "2222", "2222"}},
		// Two items that have to be joined make others impossible.
		{sheet(3, 3, "00 01 10 11 21 22"), found{3, "111102", "222", "222"}},
		{sheet(3, 3, "00 10 11 12 20"), found{2, "10111", "121", "211"}},
		{api.ListSheet{Left: 10, Right: 4, Links: grid(10, 4)}, found{4, ones(40), ones(10), "2222"}},
	} {
		checkFound(t, x.s, x.want)
	}
}

// ones returns so many kinds ListMay.
func ones(count int) string { return strings.Repeat("1", count) }

// P5.6: which link is asked, and how many links are left.
func TestAsk(t *testing.T) {
	for _, x := range []struct {
		s          api.ListSheet
		name, rest int
		e          api.Errno
	}{
		{sheet(1, 1, ""), 0, 0, api.ErrNone},
		{sheet(1, 1, "00"), 0, 0, api.ErrNone},
		{sheet(1, 2, "00 01"), 0, 0, api.OK},
		{sheet(1, 3, "00 01 02"), 0, 2, api.OK},
		{sheet(1, 3, "00 01 02", 1), 0, 0, api.ErrNone},
		{sheet(2, 2, "00 01 10 11"), 0, 0, api.OK},
		{sheet(2, 2, "00 01 10 11", 3), 0, 0, api.ErrNone},
		{sheet(3, 2, "00 10 11 21"), 0, 2, api.OK},
		{sheet(3, 3, "00 01 21 22", 0), 2, 0, api.OK},
		// The links 0 and 1 have other kinds.
		{sheet(3, 3, "00 11 01 12 22 21"), 1, 0, api.OK},
		// Both pairs of links are doubtful: asked of the second one, no fewer are left.
		{sheet(2, 4, "00 01 12 13"), 0, 2, api.OK},
		{sheet(4, 2, "20 30 01 11"), 0, 2, api.OK},
		// One link tells more than those in front of it.
		{sheet(3, 4, "00 01 11 12 22 23"), 2, 2, api.OK},
	} {
		checkAsk(t, x.s, x.name, x.rest, x.e)
	}
}
