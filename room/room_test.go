package room_test

import (
	"math"
	"slices"
	"strconv"
	"strings"
	"testing"

	"mandrel/api"
	"mandrel/room"
)

const ever = api.RoomEver

// numbers reads whole numbers with spaces between them; E is the number of days of what is kept for ever.
func numbers(text string) []int {
	var l []int
	for _, x := range strings.Fields(text) {
		n, _ := strconv.Atoi(x)
		if x == "E" {
			n = ever
		}
		l = append(l, n)
	}
	return l
}

// longs reads whole numbers of 64 bits with spaces between them.
func longs(text string) []int64 {
	var l []int64
	for _, x := range strings.Fields(text) {
		n, _ := strconv.ParseInt(x, 10, 64)
		l = append(l, n)
	}
	return l
}

// spec returns a room; its deeds are read from two numbers each, Add and Cost, with commas between the deeds.
func spec(lo, hi, least, most int64, deeds string) api.RoomSpec {
	r := api.RoomSpec{Lo: lo, Hi: hi, Weather: api.Range{Lo: least, Hi: most}}
	for x := range strings.SplitSeq(deeds, ",") {
		if n := longs(x); len(n) == 2 {
			r.Deeds = append(r.Deeds, api.RoomDeed{Add: n[0], Cost: n[1]})
		}
	}
	return r
}

// chapter returns the room R of the chapter, warmer the room Q.
func chapter() api.RoomSpec { return spec(10, 16, -2, 1, "0 1, 2 5") }

func warmer() api.RoomSpec { return spec(10, 16, -2, 1, "0 1, 2 5, -3 4") }

// full returns a room with as many degrees, as much weather and as many deeds as can be.
func full() api.RoomSpec {
	return spec(0, 60, -20, 20, "20 10000, -20 9999, 0 1, 10 0, -10 10000, 1 1")
}

// slope returns a room of all degrees in which it gets colder, or not, and nothing can be done about it.
func slope() api.RoomSpec { return spec(0, 60, -1, 0, "0 10000") }

// size returns how many degrees a room has.
func size(r api.RoomSpec) int { return int(r.Hi-r.Lo) + 1 }

// errors returns the errors of all functions for a room, each other argument of which is wrong as well.
func errors(r api.RoomSpec) []api.Errno {
	rule := slices.Repeat([]int{-1}, 99)
	_, a := room.Ranks(r)
	_, b := room.Rule(r)
	_, c := room.Kept(r, rule)
	_, d := room.Break(r, rule, -1)
	_, e := room.Cost(r, -1, -1)
	return []api.Errno{room.CheckRoom(r), a, room.CheckRanks(r, rule), b, c, d, room.CheckBreak(r, rule, -1, nil), e}
}

// P9.1: valid rooms, and the errors in their order, which all functions return before their own.
func TestRoom(t *testing.T) {
	few, many := "0 0, 1 1, 2 2, 3 3, 4 4, 5 5", "0 0, 1 1, 2 2, 3 3, 4 4, 5 5, 6 6"
	for i, x := range []struct {
		r api.RoomSpec
		e api.Errno
	}{
		{chapter(), api.OK},
		{warmer(), api.OK},
		{full(), api.OK},
		{slope(), api.OK},
		{spec(0, 0, 0, 0, "0 0"), api.OK},
		{spec(60, 60, 0, 0, "0 0"), api.OK},
		{spec(0, 60, -20, -20, "20 10000"), api.OK},
		{spec(0, 60, 20, 20, "-20 0"), api.OK},
		{spec(5, 6, -20, 20, few), api.OK},
		{spec(5, 6, 0, 0, "0 0, 0 0, 0 0, 0 0, 0 0, 0 0"), api.OK},
		{api.RoomSpec{}, api.ErrMany},
		{spec(-1, 0, 0, 0, "0 0"), api.ErrArg},
		{spec(-2, -1, 0, 0, "0 0"), api.ErrArg},
		{spec(60, 61, 0, 0, "0 0"), api.ErrArg},
		{spec(61, 61, 0, 0, "0 0"), api.ErrArg},
		{spec(6, 5, 0, 0, "0 0"), api.ErrArg},
		{spec(60, 0, 0, 0, "0 0"), api.ErrArg},
		{spec(0, math.MaxInt64, 0, 0, "0 0"), api.ErrArg},
		{spec(math.MinInt64, 0, 0, 0, "0 0"), api.ErrArg},
		{spec(math.MinInt64, math.MaxInt64, 0, 0, "0 0"), api.ErrArg},
		{spec(math.MaxInt64, math.MinInt64, 0, 0, "0 0"), api.ErrArg},
		{spec(5, 6, 1, 0, "0 0"), api.ErrRange},
		{spec(5, 6, 20, -20, "0 0"), api.ErrRange},
		{spec(5, 6, -21, 0, "0 0"), api.ErrRange},
		{spec(5, 6, 0, 21, "0 0"), api.ErrRange},
		{spec(5, 6, -30, -21, "0 0"), api.ErrRange},
		{spec(5, 6, 21, 21, "0 0"), api.ErrRange},
		{spec(5, 6, math.MinInt64, math.MaxInt64, "0 0"), api.ErrRange},
		{spec(5, 6, math.MaxInt64, math.MinInt64, "0 0"), api.ErrRange},
		{spec(5, 6, 0, 0, ""), api.ErrMany},
		{spec(5, 6, 0, 0, many), api.ErrMany},
		{spec(5, 6, 0, 0, "-21 0"), api.ErrArg},
		{spec(5, 6, 0, 0, "21 0"), api.ErrArg},
		{spec(5, 6, 0, 0, "0 -1"), api.ErrArg},
		{spec(5, 6, 0, 0, "0 10001"), api.ErrArg},
		{spec(5, 6, 0, 0, "0 0, 0 0, 0 0, 0 0, 0 0, 0 -1"), api.ErrArg},
		{spec(5, 6, 0, 0, "0 0, 21 0, 0 0"), api.ErrArg},
		{spec(5, 6, 0, 0, "-9223372036854775808 0"), api.ErrArg},
		{spec(5, 6, 0, 0, "9223372036854775807 0"), api.ErrArg},
		{spec(5, 6, 0, 0, "0 -9223372036854775808"), api.ErrArg},
		{spec(5, 6, 0, 0, "0 9223372036854775807"), api.ErrArg},
		// Lo and Hi before Weather, Weather before the number of deeds, their number before what they are.
		{spec(6, 5, 1, 0, ""), api.ErrArg},
		{spec(0, 61, 0, 21, many), api.ErrArg},
		{spec(5, 6, 1, 0, ""), api.ErrRange},
		{spec(5, 6, -21, 0, many), api.ErrRange},
		{spec(5, 6, -21, 0, "21 0"), api.ErrRange},
		{spec(5, 6, 0, 0, "99 0, 1 1, 2 2, 3 3, 4 4, 5 5, 6 6"), api.ErrMany},
	} {
		if e := room.CheckRoom(x.r); e != x.e {
			t.Error(i, e)
		}
		if x.e == api.OK {
			continue
		}
		if got := errors(x.r); !slices.Equal(got, slices.Repeat([]api.Errno{x.e}, len(got))) {
			t.Error(i, got)
		}
	}
	for _, count := range []int{7, 8, 100000} {
		if e := room.CheckRoom(api.RoomSpec{Deeds: make([]api.RoomDeed, count)}); e != api.ErrMany {
			t.Error(count, e)
		}
	}
}

// P9.2: lists that prove, and numbers that do not.
func TestCheckRanks(t *testing.T) {
	top := strconv.Itoa(math.MaxInt)
	bottom := strconv.Itoa(math.MinInt)
	// Three degrees, from the first two of which one can stay; a degree where one cannot.
	three, one := spec(4, 6, 0, 1, "0 1, -1 1"), spec(7, 7, 1, 1, "0 0")
	for i, x := range []struct {
		r     api.RoomSpec
		ranks string
		e     api.Errno
	}{
		{chapter(), "4 3 4 3 2 1 0", api.OK},
		{warmer(), "E E E E E E E", api.OK},
		{three, "E E E", api.OK},
		{one, "0", api.OK},
		{spec(0, 0, 0, 0, "0 0"), "E", api.OK},
		{spec(0, 3, -1, 0, "0 0"), "0 1 2 3", api.OK},
		{spec(0, 3, -1, -1, "0 0"), "0 1 2 3", api.OK},
		{spec(0, 3, -2, -1, "0 0"), "0 0 1 1", api.OK},
		// Numbers that are too great, too small, or all of them.
		{chapter(), "4 3 4 3 2 1 1", api.ErrSum},
		{chapter(), "4 3 4 3 2 2 0", api.ErrSum},
		{chapter(), "4 3 4 3 1 1 0", api.ErrSum},
		{chapter(), "5 3 4 3 2 1 0", api.ErrSum},
		{chapter(), "3 3 4 3 2 1 0", api.ErrSum},
		{chapter(), "0 0 0 0 0 0 0", api.ErrSum},
		{chapter(), "E E E E E E E", api.ErrSum},
		{chapter(), "0 1 2 3 4 3 4", api.ErrSum},
		{warmer(), "0 0 0 0 0 0 0", api.ErrSum},
		{warmer(), "5 5 5 5 5 5 5", api.ErrSum},
		// Days that are for ever, and one less, or more.
		{three, "999999 999999 999999", api.ErrSum},
		{three, "1000001 1000001 1000001", api.ErrSum},
		{three, "E E 1000001", api.ErrSum},
		{three, "999999 E E", api.ErrSum},
		{three, "E E 999999", api.ErrSum},
		{three, "E E 60", api.ErrSum},
		{three, strings.Repeat(top+" ", 3), api.ErrSum},
		{three, "E E " + top, api.ErrSum},
		{one, "1", api.ErrSum},
		{one, "E", api.ErrSum},
		{spec(0, 0, 0, 0, "0 0"), "0", api.ErrSum},
		{spec(0, 0, 0, 0, "0 0"), "999999", api.ErrSum},
		{spec(0, 0, 0, 0, "0 0"), "1000001", api.ErrSum},
		{spec(0, 0, 0, 0, "0 0"), top, api.ErrSum},
		// Numbers below 0.
		{one, "-1", api.ErrSum},
		{spec(0, 3, -1, 0, "0 0"), "-1 0 1 2", api.ErrSum},
		{spec(0, 0, 0, 0, "0 0"), "-1", api.ErrSum},
		{spec(0, 0, 0, 0, "0 0"), bottom, api.ErrSum},
		{three, "E -1 E", api.ErrSum},
		{three, strings.Repeat(bottom+" ", 3), api.ErrSum},
		// As many as there are degrees.
		{chapter(), "", api.ErrEqual},
		{chapter(), "4 3 4 3 2 1", api.ErrEqual},
		{chapter(), "4 3 4 3 2 1 0 0", api.ErrEqual},
		{chapter(), "-1 -1 -1 -1 -1 -1 -1 -1", api.ErrEqual},
		{one, "", api.ErrEqual},
		{one, "0 0", api.ErrEqual},
		{full(), "0", api.ErrEqual},
	} {
		if e := room.CheckRanks(x.r, numbers(x.ranks)); e != x.e {
			t.Error(i, e)
		}
	}
	for _, count := range []int{0, 60, 62, 100000} {
		if e := room.CheckRanks(full(), make([]int, count)); e != api.ErrEqual {
			t.Error(count, e)
		}
	}
}

// P9.3, P9.4, P9.5: lists that are no rule, and degrees that are not of the room, in the order of their errors.
func TestRuleErrors(t *testing.T) {
	r := chapter()
	for i, x := range []struct {
		rule   string
		degree int64
		e      api.Errno
	}{
		{"0 0 0 0 0 0 0", 10, api.OK},
		{"1 1 1 1 1 1 1", 16, api.OK},
		{"", 10, api.ErrEqual},
		{"0 0 0 0 0 0", 10, api.ErrEqual},
		{"0 0 0 0 0 0 0 0", 10, api.ErrEqual},
		{"-1 2 0 0 0 0 0 0", 9, api.ErrEqual},
		{"0 0 0 2 0 0 0", 10, api.ErrArg},
		{"-1 0 0 0 0 0 0", 10, api.ErrArg},
		{"0 0 0 0 0 0 2", 17, api.ErrArg},
		{"0 0 0 0 0 0 9223372036854775807", 17, api.ErrArg},
		{"0 0 0 0 0 0 -9223372036854775808", 9, api.ErrArg},
		{"0 0 0 0 0 0 0", 9, api.ErrRange},
		{"0 0 0 0 0 0 0", 17, api.ErrRange},
		{"0 0 0 0 0 0 0", 0, api.ErrRange},
		{"0 0 0 0 0 0 0", math.MaxInt64, api.ErrRange},
		{"0 0 0 0 0 0 0", math.MinInt64, api.ErrRange},
	} {
		rule := numbers(x.rule)
		weathers, e := room.Break(r, rule, x.degree)
		if e != x.e || e != api.OK && weathers != nil {
			t.Error(i, weathers, e)
		}
		// No weathers at all, and too many of them, are seen to after the degree.
		want := x.e
		if want == api.OK {
			want = api.ErrMany
		}
		if e := room.CheckBreak(r, rule, x.degree, nil); e != want {
			t.Error(i, e)
		}
		if e := room.CheckBreak(r, rule, x.degree, make([]int64, api.MaxLong+1)); e != want {
			t.Error(i, e)
		}
		if want = x.e; want == api.ErrRange {
			want = api.OK
		}
		if kept, e := room.Kept(r, rule); e != want || e != api.OK && kept != nil {
			t.Error(i, kept, e)
		}
	}
	if kept, e := room.Kept(full(), make([]int, 100000)); kept != nil || e != api.ErrEqual {
		t.Error(kept, e)
	}
}

// P9.4: lists that are a break, or not.
func TestCheckBreak(t *testing.T) {
	r, rule := chapter(), make([]int, 7)
	still := spec(3, 5, 0, 1, "0 0")
	forever := slices.Repeat([]int64{0}, api.MaxLong)
	long := slices.Clone(forever)
	copy(long[api.MaxLong-2:], []int64{1, 1})
	for i, x := range []struct {
		r        api.RoomSpec
		rule     []int
		degree   int64
		weathers []int64
		e        api.Errno
	}{
		{r, rule, 14, longs("1 1 1"), api.OK},
		{r, rule, 14, longs("-2 -2 -2"), api.OK},
		{r, rule, 14, longs("0 1 1 0 1"), api.OK},
		{r, rule, 16, longs("1"), api.OK},
		{r, rule, 16, longs("-2 1 1 0 -1 1 1"), api.OK},
		{r, rule, 10, longs("-1"), api.OK},
		{r, rule, 10, longs("-2"), api.OK},
		// By other deeds.
		{r, numbers("1 1 1 1 1 1 1"), 14, longs("1"), api.OK},
		{r, numbers("1 1 1 1 1 0 0"), 14, longs("1"), api.OK},
		{r, numbers("0 0 0 0 1 0 0"), 14, longs("-2 1"), api.OK},
		{r, numbers("0 0 0 0 1 0 0"), 14, longs("-2 1 0"), api.ErrRule},
		{r, numbers("0 0 0 0 1 0 0"), 14, longs("-1 1 1"), api.OK},
		{r, numbers("1 0 0 0 0 0 0"), 10, longs("-2 -2 1 -2 0 0 0 -1 -2"), api.ErrRule},
		{r, numbers("1 0 0 0 0 0 0"), 11, longs("-1 -2 1 -2 -2"), api.OK},
		// All days are kept; or one before the last one is not.
		{r, rule, 14, longs("1 1"), api.ErrRule},
		{r, rule, 14, longs("0"), api.ErrRule},
		{r, rule, 14, longs("1 1 1 1"), api.ErrRule},
		{r, rule, 14, longs("1 1 1 0"), api.ErrRule},
		{r, rule, 14, longs("1 1 1 -1"), api.ErrRule},
		{r, rule, 16, longs("1 -1 1"), api.ErrRule},
		{r, rule, 10, longs("-2 1 1 -2"), api.ErrRule},
		// Weathers that there are not.
		{r, rule, 14, longs("2 1"), api.ErrRule},
		{r, rule, 14, longs("1 2"), api.ErrRule},
		{r, rule, 14, longs("-3 -2"), api.ErrRule},
		{r, rule, 16, longs("2"), api.ErrRule},
		{r, rule, 10, longs("-3"), api.ErrRule},
		{r, rule, 10, longs("9223372036854775807"), api.ErrRule},
		{r, rule, 10, longs("-9223372036854775808"), api.ErrRule},
		{r, rule, 14, longs("9223372036854775807 1 1 1"), api.ErrRule},
		// As many weathers as can be.
		{still, make([]int, 3), 4, long, api.OK},
		{still, make([]int, 3), 5, long, api.ErrRule},
		{still, make([]int, 3), 4, forever, api.ErrRule},
		{still, make([]int, 3), 4, append(forever, 1), api.ErrMany},
		{still, make([]int, 3), 4, append(forever, 7), api.ErrMany},
		{still, make([]int, 3), 4, nil, api.ErrMany},
		{still, make([]int, 3), 4, make([]int64, 100000), api.ErrMany},
		// The rule keeps the degree for ever.
		{spec(3, 5, 0, 0, "0 0"), make([]int, 3), 4, forever, api.ErrRule},
		{spec(3, 5, 0, 0, "0 0"), make([]int, 3), 4, longs("0"), api.ErrRule},
	} {
		if e := room.CheckBreak(x.r, x.rule, x.degree, x.weathers); e != x.e {
			t.Error(i, e)
		}
	}
}
