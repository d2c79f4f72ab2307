package room_test

import (
	"math"
	"slices"
	"testing"

	"mandrel/api"
	"mandrel/room"
)

// ranksOf returns what Ranks finds, after it was checked.
func ranksOf(t *testing.T, r api.RoomSpec) []int {
	t.Helper()
	ranks, e := room.Ranks(r)
	if len(ranks) != size(r) || e != api.OK {
		t.Fatal(r, ranks, e)
	}
	if e := room.CheckRanks(r, ranks); e != api.OK || !prove(r, ranks) {
		t.Fatal(r, ranks, e)
	}
	return ranks
}

// ruleOf returns what Rule finds, which keeps the degrees for as many days as their ranks say.
func ruleOf(t *testing.T, r api.RoomSpec) []int {
	t.Helper()
	rule, e := room.Rule(r)
	if len(rule) != size(r) || e != api.OK {
		t.Fatal(r, rule, e)
	}
	if kept := keptOf(t, r, rule); !slices.Equal(kept, ranksOf(t, r)) {
		t.Fatal(r, rule, kept)
	}
	return rule
}

// keptOf returns what Kept finds, with breaks that prove it.
func keptOf(t *testing.T, r api.RoomSpec, rule []int) []int {
	t.Helper()
	kept, e := room.Kept(r, rule)
	if len(kept) != size(r) || e != api.OK {
		t.Fatal(r, rule, kept, e)
	}
	for i, days := range kept {
		degree := r.Lo + int64(i)
		weathers, e := room.Break(r, rule, degree)
		if days == ever {
			if e != api.ErrNone || weathers != nil {
				t.Fatal(r, rule, degree, weathers, e)
			}
			continue
		}
		if len(weathers) != days+1 || e != api.OK || !breaks(r, rule, degree, weathers) {
			t.Fatal(r, rule, degree, weathers, e)
		}
		if e := room.CheckBreak(r, rule, degree, weathers); e != api.OK {
			t.Fatal(r, rule, degree, weathers, e)
		}
	}
	return kept
}

// costOf returns what Cost finds, -1 if there is no plan.
func costOf(t *testing.T, r api.RoomSpec, degree int64, days int) int64 {
	t.Helper()
	cost, e := room.Cost(r, degree, days)
	switch {
	case e == api.OK && cost >= 0:
		return cost
	case e == api.ErrPlan && cost == 0:
		return -1
	}
	t.Fatal(r, degree, days, cost, e)
	return 0
}

// The chapter's examples, and example 9 of DOC.md.
func TestExamples(t *testing.T) {
	r, q := chapter(), warmer()
	if ranks := ranksOf(t, r); !slices.Equal(ranks, numbers("4 3 4 3 2 1 0")) || ranks[12-10] != 4 {
		t.Error(ranks)
	}
	if ranks := ranksOf(t, q); !slices.Equal(ranks, numbers("E E E E E E E")) {
		t.Error(ranks)
	}
	if rule := ruleOf(t, r); !slices.Equal(rule, numbers("1 1 0 0 0 0 0")) {
		t.Error(rule)
	}
	zeros := make([]int, 7)
	if kept := keptOf(t, r, zeros); !slices.Equal(kept, numbers("0 0 1 1 2 1 0")) {
		t.Error(kept)
	}
	if weathers, e := room.Break(r, zeros, 14); len(weathers) != 3 || e != api.OK {
		t.Error(weathers, e)
	}
	if e := room.CheckBreak(r, zeros, 14, longs("1 1 1")); e != api.OK {
		t.Error(e)
	}
	for i, x := range []struct {
		r      api.RoomSpec
		degree int64
		days   int
		cost   int64
	}{{r, 12, 1, 1}, {r, 12, 2, 6}, {r, 16, 1, -1}, {q, 16, 1, 4}} {
		if cost := costOf(t, x.r, x.degree, x.days); cost != x.cost {
			t.Error(i, cost)
		}
	}
}

// downTo returns the numbers from one down to 0, or up to it.
func downTo(n int, up bool) []int {
	var l []int
	for i := range n + 1 {
		l = append(l, n-i)
	}
	if up {
		slices.Reverse(l)
	}
	return l
}

// P9.2, P9.3: ranks, the first one of the best deeds, and ranks as great as can be.
func TestFind(t *testing.T) {
	for i, x := range []struct {
		r           api.RoomSpec
		ranks, rule string
	}{
		{spec(0, 0, 0, 0, "0 0"), "E", "0"},
		{spec(60, 60, 0, 0, "0 0"), "E", "0"},
		{spec(7, 7, 0, 1, "0 0, -1 0"), "0", "0"},
		{spec(7, 7, 5, 5, "0 0, -5 0, -5 1"), "E", "1"},
		{spec(7, 8, 0, 1, "0 0, -1 0"), "E E", "0 1"},
		// Too much weather for the room: no degree is kept for a day, and the first deed is as good as any.
		{spec(7, 9, -2, 1, "0 0, 1 0, 2 0"), "0 0 0", "0 0 0"},
		{spec(7, 9, -1, 1, "2 0, 1 0, 0 0"), "1 1 0", "1 2 0"},
		{spec(7, 9, -1, 1, "1 0, 0 0, -1 0"), "E E E", "0 1 2"},
		// No weather but a single one: all degrees lead on.
		{spec(0, 4, 0, 0, "1 0"), "4 3 2 1 0", "0 0 0 0 0"},
		{spec(0, 4, 2, 2, "0 0"), "2 1 1 0 0", "0 0 0 0 0"},
		{spec(0, 4, 2, 2, "0 0, -2 0"), "E E E E E", "0 0 0 1 1"},
		{spec(0, 4, -3, -3, "0 0, 5 0"), "E E E E E", "1 1 1 0 0"},
		{spec(0, 4, -3, -3, "0 0, 6 0"), "E E 0 E E", "1 1 0 0 0"},
		// Some degrees are kept for ever, others not; and of two deeds the one that keeps a day longer.
		{spec(0, 8, -4, -4, "0 0, 10 0"), "E 2 E 0 E 3 E 1 E", "1 1 1 0 0 0 0 0 0"},
		{spec(0, 5, -1, 1, "0 0, -1 0, -2 0"), "0 1 2 3 4 4", "0 0 0 0 0 1"},
		{spec(0, 5, -1, 0, "0 0"), "0 1 2 3 4 5", "0 0 0 0 0 0"},
		{spec(0, 5, -1, 0, "0 0, 1 0"), "E E E E E E", "1 0 0 0 0 0"},
		{spec(0, 5, 1, 2, "0 0, -1 0"), "5 4 3 2 1 0", "1 1 1 1 1 0"},
		{spec(0, 5, 1, 2, "-1 0, -2 0"), "E E E E E E", "0 0 0 0 0 1"},
		{spec(0, 3, -1, -1, "-1 0, 0 0, 0 1"), "0 1 2 3", "0 1 1 1"},
		{warmer(), "E E E E E E E", "1 1 0 0 0 0 2"},
	} {
		if ranks := ranksOf(t, x.r); !slices.Equal(ranks, numbers(x.ranks)) {
			t.Error(i, ranks)
		}
		if rule := ruleOf(t, x.r); !slices.Equal(rule, numbers(x.rule)) {
			t.Error(i, rule)
		}
	}
	for i, x := range []struct {
		r  api.RoomSpec
		up bool
	}{{slope(), true}, {spec(0, 60, -1, -1, "0 0, -20 0"), true}, {spec(0, 60, 0, 1, "0 0"), false}, {spec(0, 60, -20, 1, "0 0, 20 0"), false}} {
		ranks := ranksOf(t, x.r)
		if i < 3 && !slices.Equal(ranks, downTo(60, x.up)) || len(ruleOf(t, x.r)) != 61 {
			t.Error(i, ranks)
		}
	}
	if ranks := ranksOf(t, full()); !slices.Equal(ranks, slices.Repeat([]int{ever}, 61)) {
		t.Error(ranks)
	}
}

// P9.3: what other rules keep.
func TestKept(t *testing.T) {
	for i, x := range []struct {
		r          api.RoomSpec
		rule, kept string
	}{
		{chapter(), "1 1 1 1 1 1 1", "2 1 1 1 0 0 0"},
		{chapter(), "1 1 0 0 0 0 1", "4 3 4 3 2 1 0"},
		{chapter(), "1 1 1 0 0 0 0", "3 3 2 3 2 1 0"},
		{warmer(), "1 1 0 0 0 0 2", "E E E E E E E"},
		{warmer(), "1 1 0 0 2 2 2", "2 1 2 1 0 2 1"},
		{warmer(), "1 1 0 0 0 2 2", "E E E E E E E"},
		{warmer(), "2 2 2 2 2 2 2", "0 0 0 0 0 1 1"},
		{spec(0, 0, 0, 0, "1 0, 0 0"), "1", "E"},
		{spec(0, 0, 0, 0, "1 0, 0 0"), "0", "0"},
		// A ring of degrees, and a way out of it.
		{spec(0, 3, 0, 0, "1 0, -3 0, -2 0"), "0 0 0 1", "E E E E"},
		{spec(0, 3, 0, 0, "1 0, -3 0, -2 0"), "0 0 0 2", "E E E E"},
		{spec(0, 3, 0, 0, "1 0, -3 0, -2 0"), "0 0 0 0", "3 2 1 0"},
		{spec(0, 3, 0, 1, "1 0, -3 0, -2 0"), "0 0 2 1", "E E E E"},
		{spec(0, 3, 0, 1, "1 0, -3 0, -2 0"), "0 0 0 1", "1 1 0 2"},
	} {
		if kept := keptOf(t, x.r, numbers(x.rule)); !slices.Equal(kept, numbers(x.kept)) {
			t.Error(i, kept)
		}
	}
	if kept := keptOf(t, slope(), make([]int, 61)); !slices.Equal(kept, downTo(60, true)) {
		t.Error(kept)
	}
}

// P9.5: costs, and days for which there are none.
func TestCost(t *testing.T) {
	// It is cheap to let a room cool, and dear to heat it then.
	cooling := spec(0, 3, -1, 0, "0 0, 1 3, 3 8")
	for i, x := range []struct {
		r      api.RoomSpec
		degree int64
		days   int
		cost   int64
		e      api.Errno
	}{
		{chapter(), 12, 0, 0, api.OK},
		{chapter(), 16, 0, 0, api.OK},
		{chapter(), 10, 1, 5, api.OK},
		{chapter(), 10, 4, 20, api.OK},
		{chapter(), 10, 5, 0, api.ErrPlan},
		{chapter(), 12, 3, 11, api.OK},
		{chapter(), 12, 4, 16, api.OK},
		{chapter(), 12, 100, 0, api.ErrPlan},
		{chapter(), 14, 2, 2, api.OK},
		{chapter(), 14, 3, 0, api.ErrPlan},
		{slope(), 60, 60, 600000, api.OK},
		{slope(), 60, 61, 0, api.ErrPlan},
		{slope(), 0, 0, 0, api.OK},
		{slope(), 0, 1, 0, api.ErrPlan},
		{spec(0, 0, 0, 0, "0 10000"), 0, 100, 1000000, api.OK},
		{spec(0, 0, 0, 0, "0 10000, 0 9999"), 0, 100, 999900, api.OK},
		{spec(0, 0, 0, 0, "1 0, 0 7, 0 8"), 0, 3, 21, api.OK},
		{full(), 30, 1, 0, api.OK},
		{full(), 45, 1, 9999, api.OK},
		{full(), 20, 1, 0, api.OK},
		{cooling, 0, 1, 3, api.OK},
		{cooling, 0, 2, 6, api.OK},
		{cooling, 0, 3, 8, api.OK},
		{cooling, 0, 4, 11, api.OK},
		{cooling, 1, 1, 0, api.OK},
		{cooling, 1, 2, 3, api.OK},
		{cooling, 3, 3, 0, api.OK},
		{cooling, 3, 4, 3, api.OK},
		{cooling, 3, 6, 8, api.OK},
		// The degree and the days.
		{chapter(), 9, 1, 0, api.ErrRange},
		{chapter(), 17, 1, 0, api.ErrRange},
		{chapter(), 17, 0, 0, api.ErrRange},
		{chapter(), math.MaxInt64, 1, 0, api.ErrRange},
		{chapter(), math.MinInt64, 1, 0, api.ErrRange},
		{chapter(), 12, -1, 0, api.ErrRange},
		{chapter(), 12, 101, 0, api.ErrRange},
		{chapter(), 12, math.MaxInt, 0, api.ErrRange},
		{chapter(), 12, math.MinInt, 0, api.ErrRange},
		{warmer(), 12, 101, 0, api.ErrRange},
		{chapter(), 9, 101, 0, api.ErrRange},
	} {
		if cost, e := room.Cost(x.r, x.degree, x.days); cost != x.cost || e != x.e {
			t.Error(i, cost, e)
		}
	}
}
