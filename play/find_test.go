package play_test

import (
	"math"
	"slices"
	"testing"

	"mandrel/api"
	"mandrel/play"
)

// bestOf returns what a best plan is worth, as Best finds it, with the labels that prove it.
func bestOf(t *testing.T, c api.PlayCylinder) int64 {
	t.Helper()
	plan, best, e := play.Best(c)
	if e != api.OK {
		t.Fatal(c, plan, best, e)
	}
	if _, worth, e := play.Saves(c, plan); worth != best || e != api.OK {
		t.Fatal(c, plan, best, worth, e)
	}
	labels, e := play.Labels(c)
	if e != api.OK {
		t.Fatal(c, labels, e)
	}
	if bound, e := play.CheckLabels(c, labels); bound != best || e != api.OK || !areRight(c, labels) {
		t.Fatal(c, labels, bound, best, e)
	}
	return best
}

// worthsOf returns what Worths finds, the last one of which is what a best plan is worth.
func worthsOf(t *testing.T, c api.PlayCylinder) []int64 {
	t.Helper()
	worths, e := play.Worths(c)
	if len(worths) != c.Plays+1 || e != api.OK || worths[0] != 0 || worths[c.Plays] != bestOf(t, c) {
		t.Fatal(c, worths, e)
	}
	return worths
}

// kindsOf returns what Kinds finds.
func kindsOf(t *testing.T, c api.PlayCylinder) []int {
	t.Helper()
	kinds, e := play.Kinds(c)
	if len(kinds) != len(c.Passages) || e != api.OK {
		t.Fatal(c, kinds, e)
	}
	return kinds
}

// checkFewest checks what Fewest finds.
func checkFewest(t *testing.T, c api.PlayCylinder, worth int64, want int, err api.Errno) {
	t.Helper()
	if plays, e := play.Fewest(c, worth); plays != want || e != err {
		t.Error(c, worth, plays, e)
	}
}

// The chapter's examples, and example 7 of DOC.md.
func TestExamples(t *testing.T) {
	c := chapter()
	for i, x := range []struct {
		plan, saves string
		worth       int64
	}{{"0 3, 6 9", "0 1 3", 14}, {"1 4", "1 2", 9}} {
		if saves, worth, e := play.Saves(c, stretches(x.plan)); !slices.Equal(saves, numbers(x.saves)) || worth != x.worth || e != api.OK {
			t.Error(i, saves, worth, e)
		}
	}
	for plan, want := range map[string]api.Errno{"0 4": api.ErrArg, "2 5": api.ErrWorn, "0 3, 3 4": api.ErrWorn} {
		if e := play.CheckPlan(c, stretches(plan)); e != want {
			t.Error(plan, e)
		}
	}
	if worths := worthsOf(t, c); !slices.Equal(worths, longs("0 9 15")) {
		t.Error(worths)
	}
	if plan, worth, e := play.Best(c); !slices.Equal(plan, stretches("1 4, 6 9")) || worth != 15 || e != api.OK {
		t.Error(plan, worth, e)
	}
	if kinds := kindsOf(t, c); !slices.Equal(kinds, numbers("0 2 2 2 0")) {
		t.Error(kinds)
	}
	checkFewest(t, c, 9, 1, api.OK)
	checkFewest(t, c, 10, 2, api.OK)
	checkFewest(t, c, 16, 0, api.ErrPlan)
}

// P7.3, P7.4, P7.5: what each number of playings saves, and the kinds of passages.
func TestFind(t *testing.T) {
	for i, x := range []struct {
		c      api.PlayCylinder
		worths string
		kinds  string
	}{
		{cylinder(1, 1, 0, "", ""), "0", ""},
		{cylinder(1, 1, 6, "", ""), "0 0 0 0 0 0 0", ""},
		{cylinder(1, 1, 1, "", "0 0 7"), "0 7", "2"},
		// No playing: only the empty plan, which saves nothing, is best.
		{cylinder(1, 1, 0, "", "0 0 7, 0 0 0"), "0", "0 0"},
		{cylinder(1, 1, 2, "0", "0 0 7, 0 0 0"), "0 0 0", "0 0"},
		{worn(), "0 0 0 0 0 0 0", "0 0 0 0 0 0 0 0 0 0 0 0"},
		{full(), "0 12000 12000 12000 12000 12000 12000", "2 2 2 2 2 2 2 2 2 2 2 2"},
		// What is worth nothing may be saved by the way, or has to be.
		{cylinder(3, 3, 1, "", "0 0 0, 1 1 0"), "0 0", "1 1"},
		{cylinder(3, 2, 1, "", "0 1 5, 1 1 0, 2 2 0"), "0 5", "2 2 0"},
		{cylinder(3, 2, 2, "", "0 1 5, 1 1 0, 2 2 0, 0 2 0"), "0 5 5", "2 2 1 0"},
		// Only stretches that are worth nothing have the last turn.
		{cylinder(3, 3, 1, "", "0 2 0, 0 0 4"), "0 4", "1 2"},
		// The same passage twice.
		{cylinder(4, 1, 1, "", "1 1 4, 1 1 4, 2 2 8, 3 3 7"), "0 8", "1 1 1 0"},
		// A passage that just has as many turns as a playing, and one that has more.
		{cylinder(5, 3, 2, "", "0 2 1, 1 4 1000"), "0 1 1", "2 0"},
		{cylinder(5, 4, 2, "", "0 2 1, 1 4 1000"), "0 1000 1000", "0 2"},
		{cylinder(30, 30, 1, "", "0 29 1000, 0 0 1, 29 29 1"), "0 1002", "2 2 2"},
		{cylinder(30, 29, 1, "", "0 29 1000, 0 0 1, 29 29 1"), "0 1", "0 1 1"},
		{cylinder(30, 29, 2, "", "0 29 1000, 0 0 1, 29 29 1"), "0 1 2", "0 2 2"},
		{cylinder(6, 4, 2, "", "0 1 6, 1 2 5, 3 4 5, 4 5 6"), "0 11 22", "2 2 2 2"},
		{cylinder(6, 2, 2, "", "0 1 6, 1 2 5, 3 4 5, 4 5 6"), "0 6 12", "2 0 0 2"},
		{cylinder(6, 3, 3, "", "0 1 4, 1 2 4, 2 3 4, 3 4 4, 4 5 4"), "0 8 16 16", "2 2 0 2 2"},
		{cylinder(6, 3, 1, "", "0 1 4, 1 2 4, 2 3 4, 3 4 4, 4 5 4"), "0 8", "1 1 1 1 1"},
		// The best single stretch is not one of the best two, which are side by side; and fragile turns between passages.
		{cylinder(4, 2, 2, "", "0 1 3, 2 3 3, 1 2 4"), "0 4 6", "2 2 0"},
		{cylinder(4, 2, 2, "2", "0 1 3, 2 3 3, 1 2 4, 3 3 1"), "0 3 4", "2 0 0 2"},
		{cylinder(4, 4, 1, "1", "0 0 3, 2 3 3, 0 3 100"), "0 3", "1 1 0"},
		{cylinder(3, 3, 2, "0 2", "0 0 9, 1 1 2, 2 2 9, 0 1 9, 1 2 9"), "0 2 2", "0 2 0 0 0"},
		{cylinder(12, 1, 6, "", "0 0 1, 1 1 2, 2 2 3, 3 3 4, 4 4 5, 5 5 6, 6 6 7, 7 7 8, 8 8 9, 9 9 10, 10 10 11, 11 11 12"),
			"0 12 23 33 42 50 57", "0 0 0 0 0 0 2 2 2 2 2 2"},
		{cylinder(12, 1, 6, "", "0 0 1, 1 1 1, 2 2 1, 3 3 1, 4 4 1, 5 5 1, 6 6 1"), "0 1 2 3 4 5 6", "1 1 1 1 1 1 1"},
		{cylinder(12, 1, 6, "", "0 0 1, 1 1 1, 2 2 1, 3 3 1, 4 4 1, 5 5 1, 6 6 0"), "0 1 2 3 4 5 6", "2 2 2 2 2 2 0"},
	} {
		if worths := worthsOf(t, x.c); !slices.Equal(worths, longs(x.worths)) {
			t.Error(i, worths)
		}
		if kinds := kindsOf(t, x.c); !slices.Equal(kinds, numbers(x.kinds)) {
			t.Error(i, kinds)
		}
	}
}

// P7.6: the fewest stretches, and worths that no plan has.
func TestFewest(t *testing.T) {
	c := cylinder(12, 1, 4, "3", "0 0 5, 1 1 4, 2 2 3, 3 3 9, 4 4 0")
	for i, x := range []struct {
		c     api.PlayCylinder
		worth int64
		plays int
		e     api.Errno
	}{
		{c, 0, 0, api.OK},
		{c, 1, 1, api.OK},
		{c, 5, 1, api.OK},
		{c, 6, 2, api.OK},
		{c, 9, 2, api.OK},
		{c, 10, 3, api.OK},
		{c, 12, 3, api.OK},
		{c, 13, 0, api.ErrPlan},
		{c, math.MaxInt64, 0, api.ErrPlan},
		{c, -1, 0, api.ErrRange},
		{c, math.MinInt64, 0, api.ErrRange},
		{full(), 12000, 1, api.OK},
		{full(), 12001, 0, api.ErrPlan},
		{worn(), 0, 0, api.OK},
		{worn(), 1, 0, api.ErrPlan},
		{cylinder(1, 1, 0, "", "0 0 7"), 0, 0, api.OK},
		{cylinder(1, 1, 0, "", "0 0 7"), 1, 0, api.ErrPlan},
		{cylinder(1, 1, 1, "", "0 0 7"), 7, 1, api.OK},
		{cylinder(6, 1, 6, "", "0 0 1, 1 1 1, 2 2 1, 3 3 1, 4 4 1, 5 5 1"), 6, 6, api.OK},
		{cylinder(6, 1, 6, "", "0 0 1, 1 1 1, 2 2 1, 3 3 1, 4 4 1, 5 5 1"), 7, 0, api.ErrPlan},
	} {
		if plays, e := play.Fewest(x.c, x.worth); plays != x.plays || e != x.e {
			t.Error(i, plays, e)
		}
	}
}
