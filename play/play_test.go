package play_test

import (
	"math"
	"slices"
	"strconv"
	"strings"
	"testing"

	"mandrel/api"
	"mandrel/play"
)

// numbers reads whole numbers with spaces between them.
func numbers(text string) []int {
	var l []int
	for _, x := range strings.Fields(text) {
		n, _ := strconv.Atoi(x)
		l = append(l, n)
	}
	return l
}

// longs reads whole numbers of 64 bits with spaces between them.
func longs(text string) []int64 {
	var l []int64
	for _, x := range strings.Fields(text) {
		n, _ := strconv.ParseInt(x, 10, 64)
		l = append(l, n)
	}
	return l
}

// stretches reads stretches: two turns, with commas between them.
func stretches(text string) []api.PlayStretch {
	var l []api.PlayStretch
	for x := range strings.SplitSeq(text, ",") {
		if n := numbers(x); len(n) == 2 {
			l = append(l, api.PlayStretch{From: n[0], To: n[1]})
		}
	}
	return l
}

// passages reads passages: two turns and the Worth of each one, with commas between them.
func passages(text string) []api.PlayPassage {
	var l []api.PlayPassage
	for x := range strings.SplitSeq(text, ",") {
		if n := numbers(x); len(n) == 3 {
			l = append(l, api.PlayPassage{From: n[0], To: n[1], Worth: int64(n[2])})
		}
	}
	return l
}

// cylinder returns a cylinder.
func cylinder(turns, long, plays int, fragile, text string) api.PlayCylinder {
	return api.PlayCylinder{Turns: turns, Long: long, Plays: plays, Fragile: numbers(fragile), Passages: passages(text)}
}

// chapter returns the cylinder C of the chapter.
func chapter() api.PlayCylinder {
	return cylinder(10, 4, 2, "5", "0 1 3, 1 3 5, 3 4 4, 6 9 6, 4 6 9")
}

// upTo returns the numbers from 0 to count - 1.
func upTo(count int) []int {
	var l []int
	for n := range count {
		l = append(l, n)
	}
	return l
}

// full returns a cylinder with as much of all as a cylinder can have, but without fragile turns.
func full() api.PlayCylinder {
	c := api.PlayCylinder{Turns: api.MaxPlayTurns, Long: api.MaxPlayTurns, Plays: api.MaxPlays}
	for i := range api.MaxPlayPassages {
		c.Passages = append(c.Passages, api.PlayPassage{From: i * 2, To: api.MaxPlayTurns - 1, Worth: api.MaxPlayWorth})
	}
	return c
}

// worn returns the full cylinder, all turns of which are fragile.
func worn() api.PlayCylinder {
	c := full()
	c.Fragile = upTo(c.Turns)
	return c
}

// with returns a cylinder with so many passages, the last one of which is given.
func with(count int, last api.PlayPassage) api.PlayCylinder {
	c := chapter()
	c.Passages = append(make([]api.PlayPassage, count-1), last)
	return c
}

// errors returns the errors of all functions with a cylinder, of which each other argument is wrong as well.
func errors(c api.PlayCylinder) []api.Errno {
	plan := slices.Repeat([]api.PlayStretch{{From: -1, To: -1}}, 7)
	_, _, a := play.Saves(c, plan)
	_, _, b := play.Best(c)
	_, d := play.Worths(c)
	_, e := play.Labels(c)
	_, f := play.CheckLabels(c, []int64{-1})
	_, g := play.Kinds(c)
	_, h := play.Fewest(c, -1)
	return []api.Errno{play.CheckCylinder(c), play.CheckPlan(c, plan), a, b, d, e, f, g, h}
}

// P7.1: valid cylinders, and the errors in their order, which all functions return before their own.
func TestCylinder(t *testing.T) {
	for i, x := range []struct {
		c api.PlayCylinder
		e api.Errno
	}{
		{chapter(), api.OK},
		{full(), api.OK},
		{worn(), api.OK},
		{cylinder(1, 1, 0, "", ""), api.OK},
		{cylinder(1, 1, 6, "0", "0 0 0, 0 0 1000"), api.OK},
		{cylinder(30, 1, 0, "0 29", "0 29 5, 29 29 5, 0 0 5, 0 29 5"), api.OK},
		{cylinder(30, 30, 6, "", ""), api.OK},
		{with(12, api.PlayPassage{From: 9, To: 9, Worth: 1}), api.OK},
		{api.PlayCylinder{}, api.ErrArg},
		{cylinder(0, 0, 0, "", ""), api.ErrArg},
		{cylinder(0, 1, 0, "", ""), api.ErrArg},
		{cylinder(-1, -1, 0, "", ""), api.ErrArg},
		{cylinder(31, 30, 0, "", ""), api.ErrArg},
		{cylinder(math.MaxInt, 1, 0, "", ""), api.ErrArg},
		{cylinder(math.MinInt, 1, 0, "", ""), api.ErrArg},
		{cylinder(10, 0, 0, "", ""), api.ErrArg},
		{cylinder(10, -1, 0, "", ""), api.ErrArg},
		{cylinder(10, 11, 0, "", ""), api.ErrArg},
		{cylinder(30, 31, 0, "", ""), api.ErrArg},
		{cylinder(10, math.MaxInt, 0, "", ""), api.ErrArg},
		{cylinder(10, math.MinInt, 0, "", ""), api.ErrArg},
		{cylinder(10, 4, -1, "", ""), api.ErrArg},
		{cylinder(10, 4, 7, "", ""), api.ErrArg},
		{cylinder(10, 4, math.MaxInt, "", ""), api.ErrArg},
		{cylinder(10, 4, math.MinInt, "", ""), api.ErrArg},
		// ErrArg before all others, ErrRule before ErrMany, ErrMany before ErrRange.
		{cylinder(10, 4, 7, "1 1", "1 0 0"), api.ErrArg},
		{cylinder(10, 11, 6, "-1", "0 0 1001"), api.ErrArg},
		{api.PlayCylinder{Turns: 31, Long: 1, Fragile: []int{31}, Passages: make([]api.PlayPassage, 13)}, api.ErrArg},
		{cylinder(10, 4, 2, "5 5", "0 0 1"), api.ErrRule},
		{cylinder(10, 4, 2, "6 5", "0 0 1"), api.ErrRule},
		{cylinder(10, 4, 2, "10", "0 0 1"), api.ErrRule},
		{cylinder(10, 4, 2, "-1", "0 0 1"), api.ErrRule},
		{cylinder(10, 4, 2, "-1 4", "0 0 1"), api.ErrRule},
		{cylinder(10, 4, 2, "0 9 10", "0 0 1"), api.ErrRule},
		{cylinder(10, 4, 2, "0 3 2 9", "0 0 1"), api.ErrRule},
		{cylinder(1, 1, 0, "0 0", ""), api.ErrRule},
		{cylinder(1, 1, 0, "1", ""), api.ErrRule},
		{api.PlayCylinder{Turns: 10, Long: 4, Fragile: []int{math.MinInt, math.MaxInt}}, api.ErrRule},
		{api.PlayCylinder{Turns: 30, Long: 4, Fragile: upTo(31)}, api.ErrRule},
		{api.PlayCylinder{Turns: 30, Long: 4, Fragile: []int{30}, Passages: make([]api.PlayPassage, 13)}, api.ErrRule},
		{cylinder(10, 4, 2, "1 0", "1 0 0"), api.ErrRule},
		{with(13, api.PlayPassage{}), api.ErrMany},
		{with(13, api.PlayPassage{From: -1}), api.ErrMany},
		{with(13, api.PlayPassage{Worth: 1001}), api.ErrMany},
		{with(12, api.PlayPassage{To: 10}), api.ErrRange},
		{cylinder(10, 4, 2, "", "0 10 1"), api.ErrRange},
		{cylinder(10, 4, 2, "", "10 10 1"), api.ErrRange},
		{cylinder(10, 4, 2, "", "-1 0 1"), api.ErrRange},
		{cylinder(10, 4, 2, "", "-1 -1 1"), api.ErrRange},
		{cylinder(10, 4, 2, "", "0 -1 1"), api.ErrRange},
		{cylinder(10, 4, 2, "", "1 0 1"), api.ErrRange},
		{cylinder(10, 4, 2, "", "9 0 1"), api.ErrRange},
		{cylinder(10, 4, 2, "", "0 0 -1"), api.ErrRange},
		{cylinder(10, 4, 2, "", "0 0 1001"), api.ErrRange},
		{cylinder(10, 4, 2, "", "0 0 1, 0 0 1001, 0 0 1"), api.ErrRange},
		{with(1, api.PlayPassage{Worth: math.MaxInt64}), api.ErrRange},
		{with(1, api.PlayPassage{Worth: math.MinInt64}), api.ErrRange},
		{with(1, api.PlayPassage{From: math.MinInt, To: math.MaxInt, Worth: 1}), api.ErrRange},
	} {
		if e := play.CheckCylinder(x.c); e != x.e {
			t.Error(i, e)
		}
		if x.e == api.OK {
			continue
		}
		if got := errors(x.c); !slices.Equal(got, slices.Repeat([]api.Errno{x.e}, 9)) {
			t.Error(i, got)
		}
	}
}

// P7.2: plans with what they save, and stretches that are none, the first of which decides.
func TestPlan(t *testing.T) {
	c := chapter()
	long := cylinder(30, 30, 6, "", "0 29 1, 0 0 2, 29 29 4, 3 7 8, 7 11 16, 7 7 32")
	for i, x := range []struct {
		c     api.PlayCylinder
		plan  string
		saves string
		worth int64
		e     api.Errno
	}{
		{c, "", "", 0, api.OK},
		{c, "0 3, 6 9", "0 1 3", 14, api.OK},
		{c, "1 4", "1 2", 9, api.OK},
		{c, "1 4, 6 9", "1 2 3", 15, api.OK},
		{c, "0 0, 1 1", "", 0, api.OK},
		{c, "0 2, 3 4", "0 2", 7, api.OK},
		{c, "0 0, 6 8", "", 0, api.OK},
		{c, "9 9", "", 0, api.OK},
		{long, "0 29", "0 1 2 3 4 5", 63, api.OK},
		{long, "0 0, 3 7, 8 11, 29 29", "1 2 3 5", 46, api.OK},
		{long, "3 6, 7 11", "4 5", 48, api.OK},
		// Turns that are played one after the other are not in one stretch.
		{long, "0 14, 15 29", "1 2 3 4 5", 62, api.OK},
		{long, "0 0, 1 1, 2 2, 3 3, 4 4, 5 29", "1 2 4 5", 54, api.OK},
		{cylinder(2, 1, 2, "", "0 0 5, 1 1 7, 0 1 100"), "0 0, 1 1", "0 1", 12, api.OK},
		{cylinder(2, 2, 2, "", "0 0 5, 1 1 7, 0 1 0"), "0 1", "0 1 2", 12, api.OK},
		{cylinder(1, 1, 1, "", "0 0 5, 0 0 5, 0 0 1000"), "0 0", "0 1 2", 1010, api.OK},
		{full(), "0 29", "0 1 2 3 4 5 6 7 8 9 10 11", 12000, api.OK},
		{full(), "5 29", "3 4 5 6 7 8 9 10 11", 9000, api.OK},
		{c, "0 0, 1 1, 2 2", "", 0, api.ErrMany},
		{c, "-1 0, 1 1, 2 2", "", 0, api.ErrMany},
		{cylinder(5, 2, 0, "", ""), "0 0", "", 0, api.ErrMany},
		{cylinder(5, 2, 6, "", ""), "0 0, 0 0, 0 0, 0 0, 0 0, 0 0, 0 0", "", 0, api.ErrMany},
		{c, "-1 0", "", 0, api.ErrRange},
		{c, "-1 -1", "", 0, api.ErrRange},
		{c, "0 -1", "", 0, api.ErrRange},
		{c, "9 10", "", 0, api.ErrRange},
		{c, "10 10", "", 0, api.ErrRange},
		{c, "0 10", "", 0, api.ErrRange},
		{c, "1 0", "", 0, api.ErrRange},
		{c, "6 4", "", 0, api.ErrRange},
		{c, "0 9223372036854775807", "", 0, api.ErrRange},
		{c, "-9223372036854775808 9223372036854775807", "", 0, api.ErrRange},
		{c, "9223372036854775807 -9223372036854775808", "", 0, api.ErrRange},
		{c, "0 4", "", 0, api.ErrArg},
		{c, "0 9", "", 0, api.ErrArg},
		// Too long comes before worn.
		{c, "2 6", "", 0, api.ErrArg},
		{c, "0 3, 2 6", "", 0, api.ErrArg},
		{c, "5 5", "", 0, api.ErrWorn},
		{c, "2 5", "", 0, api.ErrWorn},
		{c, "5 8", "", 0, api.ErrWorn},
		{c, "4 6", "", 0, api.ErrWorn},
		{c, "0 3, 3 4", "", 0, api.ErrWorn},
		{c, "0 3, 0 3", "", 0, api.ErrWorn},
		{c, "0 3, 1 2", "", 0, api.ErrWorn},
		{c, "6 9, 0 3", "", 0, api.ErrWorn},
		{c, "1 2, 0 0", "", 0, api.ErrWorn},
		{c, "1 2, 0 1", "", 0, api.ErrWorn},
		{worn(), "3 3", "", 0, api.ErrWorn},
		// The first stretch decides.
		{c, "0 4, -1 0", "", 0, api.ErrArg},
		{c, "5 5, -1 0", "", 0, api.ErrWorn},
		{c, "5 5, 0 4", "", 0, api.ErrWorn},
		{c, "0 3, -1 0", "", 0, api.ErrRange},
		{c, "3 3, 2 1", "", 0, api.ErrRange},
		{long, "0 3, 4 4, 4 6, 9 8", "", 0, api.ErrWorn},
	} {
		plan := stretches(x.plan)
		if e := play.CheckPlan(x.c, plan); e != x.e {
			t.Error(i, e)
		}
		if saves, worth, e := play.Saves(x.c, plan); !slices.Equal(saves, numbers(x.saves)) || worth != x.worth || e != x.e {
			t.Error(i, saves, worth, e)
		}
	}
	for _, count := range []int{3, 7, 100000} {
		if e := play.CheckPlan(c, make([]api.PlayStretch, count)); e != api.ErrMany {
			t.Error(count, e)
		}
	}
}

// P7.4: right labels, and numbers that are none.
func TestCheckLabels(t *testing.T) {
	// Three turns, the middle one fragile, and the passages of the turns 0 and 2; a row for each number of turns.
	three := cylinder(3, 3, 2, "1", "0 0 5, 2 2 7, 0 2 1000")
	// Two turns that can be played together.
	two := cylinder(2, 2, 2, "", "0 0 5, 1 1 7, 0 1 100, 0 0 1")
	none := cylinder(2, 1, 0, "", "0 0 5")
	top := strconv.Itoa(api.MaxNumber)
	for i, x := range []struct {
		c      api.PlayCylinder
		labels string
		bound  int64
		e      api.Errno
	}{
		{three, "0 0 0  0 5 5  0 5 5  0 7 12", 12, api.OK},
		{three, "0 0 0  0 5 6  0 5 6  0 7 13", 13, api.OK},
		{three, "0 1 2  3 6 7  3 6 8  3 10 13", 13, api.OK},
		{three, "0 0 0  0 5 5  0 5 5  12 12 12", 12, api.OK},
		{three, "0 0 0  9 9 9  9 9 9  9 16 16", 16, api.OK},
		{three, "0 0 0  0 5 5  0 5 5  0 7 " + top, api.MaxNumber, api.OK},
		{three, strings.Replace("0 T T  T T T  T T T  T T T", "T", top, -1), 0, api.ErrSum},
		{two, "0 0 0  0 6 6  0 113 113", 113, api.OK},
		{two, "0 0 0  0 6 7  1 114 115", 115, api.OK},
		{none, "0 0 0", 0, api.OK},
		{none, "0 3 3", 3, api.OK},
		{cylinder(1, 1, 0, "", ""), "0 0", 0, api.OK},
		{cylinder(1, 1, 1, "", "0 0 0"), "0 0 0 0", 0, api.OK},
		{cylinder(1, 1, 1, "", "0 0 3"), "0 0 0 3", 3, api.OK},
		{cylinder(1, 1, 1, "", "0 0 3"), "0 0 0 2", 0, api.ErrSum},
		{cylinder(1, 1, 1, "0", "0 0 3"), "0 0 0 2", 2, api.OK},
		// Labels that become less with more turns.
		{three, "0 0 0  0 5 5  0 5 4  0 7 12", 0, api.ErrSum},
		{three, "0 1 0  0 5 5  0 5 5  0 7 12", 0, api.ErrSum},
		{three, "0 0 0  1 6 6  0 6 6  1 8 13", 0, api.ErrSum},
		{none, "0 3 2", 0, api.ErrSum},
		// Labels that become less with more playings.
		{three, "0 0 0  0 6 5  0 6 6  0 7 13", 0, api.ErrSum},
		{three, "0 0 0  6 5 5  6 6 6  6 13 13", 0, api.ErrSum},
		{three, "0 0 0  0 5 5  0 5 5  0 13 12", 0, api.ErrSum},
		{three, "0 2 1  0 7 7  0 7 7  0 7 14", 0, api.ErrSum},
		// Labels that are too small for a stretch.
		{three, "0 0 0  0 4 5  0 5 5  0 7 12", 0, api.ErrSum},
		{three, "0 0 0  0 5 5  0 5 5  0 6 12", 0, api.ErrSum},
		{three, "0 0 0  0 5 5  0 5 5  0 7 11", 0, api.ErrSum},
		{three, "0 0 0  0 5 5  1 5 5  1 7 12", 0, api.ErrSum},
		{three, "0 1 1  0 5 5  0 5 5  0 7 12", 0, api.ErrSum},
		{two, "0 0 0  0 6 6  0 112 113", 0, api.ErrSum},
		{two, "0 0 0  0 5 6  0 113 113", 0, api.ErrSum},
		{two, "0 1 1  0 6 7  0 113 113", 0, api.ErrSum},
		// The first label.
		{three, "1 1 1  1 6 6  1 6 6  1 8 13", 0, api.ErrSum},
		{none, "1 1 1", 0, api.ErrSum},
		// Numbers that are no labels, and how many there are of them.
		{three, "0 0 0  0 5 5  0 5 5  0 7 1099511627777", 0, api.ErrRange},
		{three, "-1 0 0  0 5 5  0 5 5  0 7 12", 0, api.ErrRange},
		{three, "5 4 3  0 5 5  0 -1 5  0 7 12", 0, api.ErrRange},
		{three, "0 0 0  0 5 5  0 5 5  0 7 9223372036854775807", 0, api.ErrRange},
		{three, "0 0 0  0 5 5  -9223372036854775808 5 5  0 7 12", 0, api.ErrRange},
		{three, "0 0 0  0 5 5  0 5 5  0 7", 0, api.ErrEqual},
		{three, "0 0 0  0 5 5  0 5 5  0 7 12 12", 0, api.ErrEqual},
		{three, "0 0 0  0 5 5  0 5 5  0 7 -1 -1", 0, api.ErrEqual},
		{three, "", 0, api.ErrEqual},
		{none, "0 0", 0, api.ErrEqual},
		{none, "0 0 0 0", 0, api.ErrEqual},
	} {
		if bound, e := play.CheckLabels(x.c, longs(x.labels)); bound != x.bound || e != x.e {
			t.Error(i, bound, e)
		}
	}
	if bound, e := play.CheckLabels(three, make([]int64, 100000)); bound != 0 || e != api.ErrEqual {
		t.Error(bound, e)
	}
}
