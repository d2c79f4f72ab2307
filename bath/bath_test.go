package bath_test

import (
	"math"
	"slices"
	"strconv"
	"strings"
	"testing"

	"mandrel/api"
	"mandrel/bath"
)

// numbers reads whole numbers with spaces between them.
func numbers(text string) []int {
	var l []int
	for _, x := range strings.Fields(text) {
		n, _ := strconv.Atoi(x)
		l = append(l, n)
	}
	return l
}

// longs reads whole numbers of 64 bits with spaces between them.
func longs(text string) []int64 {
	var l []int64
	for _, x := range strings.Fields(text) {
		n, _ := strconv.ParseInt(x, 10, 64)
		l = append(l, n)
	}
	return l
}

// shop returns a workshop; its moves are read from what each one takes, > and what it gives, with commas between the moves.
func shop(caps, moves string) api.BathSpec {
	b := api.BathSpec{Caps: longs(caps)}
	for x := range strings.SplitSeq(moves, ",") {
		if take, give, ok := strings.Cut(x, ">"); ok {
			b.Moves = append(b.Moves, api.BathMove{Take: longs(take), Give: longs(give)})
		}
	}
	return b
}

// mix returns a mixture.
func mix(times string, den int64) api.BathMix { return api.BathMix{Times: longs(times), Den: den} }

// chapter returns the workshop B of the chapter.
func chapter() api.BathSpec { return shop("6 3 6", "2 0 0>0 1 0, 1 1 0>0 1 1, 0 1 0>2 0 0") }

// full returns a workshop with as many kinds, moves and things as can be, and almost as many stocks.
func full() api.BathSpec {
	return shop("9 9 4 3 1", "5 5 4 3 1>5 5 4 3 1, 1 0 0 0 0>0 1 0 0 0, 0 1 0 0 0>0 0 1 0 0, 0 0 1 0 0>0 0 0 1 0, 0 0 0 1 0>0 0 0 0 1, 0 0 0 0 1>5 0 0 0 0, 2 3 0 0 0>0 0 1 0 0, 0 5 5 5 5>5 0 0 0 0")
}

// counter returns a workshop that counts: five things of a kind are taken for one of the next kind. All ways to a stock have as many moves, up to 2532.
func counter() api.BathSpec {
	return shop("5 5 5 5 2", "0 0 0 0 0>1 0 0 0 0, 5 0 0 0 0>0 1 0 0 0, 0 5 0 0 0>0 0 1 0 0, 0 0 5 0 0>0 0 0 1 0, 0 0 0 5 0>0 0 0 0 1")
}

// errors returns the errors of all functions for a workshop and two stocks, each other argument of which is wrong as well; at first those of functions without stocks, then those of functions with one.
func errors(b api.BathSpec, from, to []int64) (none, one, two []api.Errno) {
	x := api.BathMix{Times: make([]int64, 99)}
	_, make1 := bath.Make(b, from, []int{-1})
	_, stocks := bath.Stocks(b, from)
	_, _, most := bath.Most(b, from, -1)
	_, stuck := bath.Stuck(b, from)
	_, reach := bath.Reach(b, from, to)
	_, weights := bath.Weights(b, from, to)
	_, mixed := bath.Mix(b, from, to)
	none = []api.Errno{bath.CheckBath(b), bath.CheckWeights(b, make([]int64, 99))}
	one = []api.Errno{make1, stocks, most, stuck}
	two = []api.Errno{reach, weights, bath.CheckMix(b, from, to, x), mixed}
	return none, one, two
}

// all tells whether all errors are this one.
func all(got []api.Errno, e api.Errno) bool {
	return slices.Equal(got, slices.Repeat([]api.Errno{e}, len(got)))
}

// P11.1: valid workshops, and the errors in their order, which all functions return before their own.
func TestBath(t *testing.T) {
	one := "1>0"
	eight := strings.Repeat("1>0,", 8)
	for i, x := range []struct {
		b api.BathSpec
		e api.Errno
	}{
		{chapter(), api.OK},
		{full(), api.OK},
		{counter(), api.OK},
		{shop("0", ""), api.OK},
		{shop("9", ""), api.OK},
		{shop("9 9 9", ""), api.OK},
		{shop("0 0 0 0 0", ""), api.OK},
		{shop("9", eight), api.OK},
		{shop("0", "5>5"), api.OK},
		{shop("0", "0>0"), api.OK},
		{shop("9", "0>5, 5>0"), api.OK},
		// Products of 4096, of 4095, and of more.
		{shop("7 7 7 7", ""), api.OK},
		{shop("3 7 7 7 1", ""), api.OK},
		{shop("8 6 4 0 9", ""), api.OK},
		{shop("9 9 9 3 0", ""), api.OK},
		{shop("9 9 9 3", ""), api.OK},
		{shop("9 9 9 4", ""), api.ErrMany},
		{shop("9 9 9 9", ""), api.ErrMany},
		{shop("9 9 9 9 9", ""), api.ErrMany},
		{shop("8 8 8 5 0", ""), api.ErrMany},
		{shop("3 7 7 7 2", ""), api.ErrMany},
		{shop("7 7 7 8", ""), api.ErrMany},
		{shop("6 4 4 4 4", ""), api.ErrMany},
		{shop("6 6 6 5 1", ""), api.ErrMany},
		{shop("4 4 4 4 5", ""), api.OK},
		// Kinds and moves.
		{api.BathSpec{}, api.ErrMany},
		{shop("", one), api.ErrMany},
		{shop("", ">"), api.ErrMany},
		{shop("1 1 1 1 1 1", ""), api.ErrMany},
		{shop("0 0 0 0 0 0", ""), api.ErrMany},
		{shop("9", eight+one), api.ErrMany},
		{shop("-1", ""), api.ErrArg},
		{shop("10", ""), api.ErrArg},
		{shop("0 0 0 0 10", ""), api.ErrArg},
		{shop("0 -1 0", ""), api.ErrArg},
		{shop("9223372036854775807", ""), api.ErrArg},
		{shop("-9223372036854775808", ""), api.ErrArg},
		{shop("9223372036854775807 9223372036854775807", ""), api.ErrArg},
		{shop("9 9", "1>0 1"), api.ErrEqual},
		{shop("9 9", "1 0>1"), api.ErrEqual},
		{shop("9 9", "1 0 0>1 0"), api.ErrEqual},
		{shop("9 9", "1 0>1 0 0"), api.ErrEqual},
		{shop("9 9", "1 0>1 0, >"), api.ErrEqual},
		{shop("9", "-1>0"), api.ErrArg},
		{shop("9", "0>-1"), api.ErrArg},
		{shop("9", "6>0"), api.ErrArg},
		{shop("9", "0>6"), api.ErrArg},
		{shop("9 9", "0 0>0 0, 0 0>0 0, 0 0>0 6"), api.ErrArg},
		{shop("9 9", "0 0>0 0, 0 -1>0 0, 0 0>0 0"), api.ErrArg},
		{shop("9", "9223372036854775807>0"), api.ErrArg},
		{shop("9", "0>-9223372036854775808"), api.ErrArg},
		// How many kinds and moves there are before the caps, these before the product, it before how long the moves are, and this before what is in them.
		{shop("10 10 10 10 10 10", "1>1"), api.ErrMany},
		{shop("10", eight+"9>9 9"), api.ErrMany},
		{shop("9 9 9 9 10", "1>1"), api.ErrArg},
		{shop("9 9 9 -1", "6>6"), api.ErrArg},
		{shop("9 9 9 9", "1>1"), api.ErrMany},
		{shop("9 9 9 9", "0 0 0 6>0 0 0 0"), api.ErrMany},
		{shop("9 9", "6 0>0 0, 0>0"), api.ErrEqual},
		{shop("9 9", "6 0>0"), api.ErrEqual},
	} {
		if e := bath.CheckBath(x.b); e != x.e {
			t.Error(i, e)
		}
		if x.e == api.OK {
			continue
		}
		if none, one, two := errors(x.b, longs("-1 -1 -1 -1 -1 -1 -1"), nil); !all(slices.Concat(none, one, two), x.e) {
			t.Error(i, none, one, two)
		}
	}
	for _, count := range []int{6, 7, 9, 100000} {
		if e := bath.CheckBath(api.BathSpec{Caps: make([]int64, count)}); e != api.ErrMany {
			t.Error(count, e)
		}
		moves := slices.Repeat([]api.BathMove{{Take: longs("1"), Give: longs("1")}}, count)
		if e := bath.CheckBath(api.BathSpec{Caps: longs("1"), Moves: moves}); (e == api.OK) != (count <= 8) {
			t.Error(count, e)
		}
	}
}

// Numbers that are no stock, the first stock before the second one, before all else that is wrong.
func TestStocks(t *testing.T) {
	for i, x := range []struct {
		from, to string
		e        api.Errno
	}{
		{"5 0", "0 1 3", api.ErrEqual},
		{"", "0 1 3", api.ErrEqual},
		{"5 0 0 0", "0 1 3", api.ErrEqual},
		{"-1 0 0 0", "0 1 3", api.ErrEqual},
		{"7 0 0", "0 1 3", api.ErrRange},
		{"6 4 6", "0 1 3", api.ErrRange},
		{"0 0 7", "0 1 3", api.ErrRange},
		{"-1 0 0", "0 1 3", api.ErrRange},
		{"0 0 -1", "0 1 3", api.ErrRange},
		{"0 9223372036854775807 0", "0 1 3", api.ErrRange},
		{"0 -9223372036854775808 0", "0 1 3", api.ErrRange},
		{"7 0 0", "0 1", api.ErrRange},
		{"7 0", "0 1 7", api.ErrEqual},
	} {
		none, one, two := errors(chapter(), longs(x.from), longs(x.to))
		if !slices.Equal(none, []api.Errno{api.OK, api.ErrEqual}) || !all(slices.Concat(one, two), x.e) {
			t.Error(i, none, one, two)
		}
		if _, _, two := errors(chapter(), longs("6 3 6"), longs(x.from)); !all(two, x.e) {
			t.Error(i, two)
		}
	}
	// Good stocks: all other arguments are wrong, or it is as the chapter says.
	_, one, two := errors(chapter(), longs("6 3 6"), longs("0 0 0"))
	if !slices.Equal(one, []api.Errno{api.ErrRange, api.OK, api.ErrArg, api.OK}) {
		t.Error(one)
	}
	if !slices.Equal(two, []api.Errno{api.ErrPlan, api.OK, api.ErrEqual, api.ErrNone}) {
		t.Error(two)
	}
}

// P11.2: ways, and lists that are none.
func TestMake(t *testing.T) {
	idle := shop("1", "0>0, 1>1, 2>2")
	for i, x := range []struct {
		b                api.BathSpec
		stock, way, want string
		e                api.Errno
	}{
		{chapter(), "5 0 0", "0 1 1 2", "3 0 2", api.OK},
		{chapter(), "5 0 0", "", "5 0 0", api.OK},
		{chapter(), "5 0 0", "0", "3 1 0", api.OK},
		{chapter(), "5 0 0", "0 0", "1 2 0", api.OK},
		{chapter(), "5 0 0", "0 2", "5 0 0", api.OK},
		{chapter(), "5 0 0", "0 1 1 1", "0 1 3", api.OK},
		{chapter(), "5 0 0", "1", "", api.ErrState},
		{chapter(), "5 0 0", "2", "", api.ErrState},
		{chapter(), "5 0 0", "0 0 0", "", api.ErrState},
		{chapter(), "5 0 0", "0 1 1 1 1", "", api.ErrState},
		{chapter(), "5 0 0", "0 1 1 1 1 2", "", api.ErrState},
		{chapter(), "5 0 0", "0 1 0 2 2 2", "", api.ErrState},
		// Caps.
		{chapter(), "6 3 0", "0", "", api.ErrState},
		{chapter(), "6 3 0", "2", "", api.ErrState},
		{chapter(), "5 3 0", "2", "", api.ErrState},
		{chapter(), "4 3 0", "2", "6 2 0", api.OK},
		{chapter(), "6 3 6", "1", "", api.ErrState},
		{chapter(), "6 3 5", "1", "5 3 6", api.OK},
		{chapter(), "1 3 5", "1", "0 3 6", api.OK},
		{chapter(), "0 3 5", "1", "", api.ErrState},
		{shop("3", "5>5"), "3", "0", "", api.ErrState},
		{shop("9", "5>5"), "4", "0", "", api.ErrState},
		{shop("9", "5>5"), "5", "0 0 0", "5", api.OK},
		{shop("9", "5>5"), "9", "0", "9", api.OK},
		{shop("9", "0>5"), "4", "0", "9", api.OK},
		{shop("9", "0>5"), "5", "0", "", api.ErrState},
		{shop("9", "5>0"), "5", "0", "0", api.OK},
		{shop("0", ""), "0", "", "0", api.OK},
		{idle, "0", "0 0 0 0", "0", api.OK},
		{idle, "0", "1", "", api.ErrState},
		{idle, "1", "0 1 0 1", "1", api.OK},
		{idle, "1", "2", "", api.ErrState},
		{full(), "9 9 4 3 1", "0", "9 9 4 3 1", api.OK},
		{full(), "9 9 4 2 1", "0", "", api.ErrState},
		{full(), "0 0 0 0 1", "5 6", "", api.ErrState},
		{full(), "0 3 0 0 1", "5 6", "3 0 1 0 0", api.OK},
		// Names of moves, all of them before one that cannot be made.
		{chapter(), "5 0 0", "3", "", api.ErrRange},
		{chapter(), "5 0 0", "-1", "", api.ErrRange},
		{chapter(), "5 0 0", "1 1 3", "", api.ErrRange},
		{chapter(), "5 0 0", "1 -1 0", "", api.ErrRange},
		{chapter(), "5 0 0", "9223372036854775807", "", api.ErrRange},
		{chapter(), "5 0 0", "-9223372036854775808", "", api.ErrRange},
		{shop("0", ""), "0", "0", "", api.ErrRange},
	} {
		if l, e := bath.Make(x.b, longs(x.stock), numbers(x.way)); !slices.Equal(l, longs(x.want)) || e != x.e {
			t.Error(i, l, e)
		}
	}
	for _, x := range []struct {
		move, count int
		e           api.Errno
	}{{0, 4096, api.OK}, {0, 4097, api.ErrMany}, {2, 4096, api.ErrState}, {2, 4097, api.ErrMany}, {9, 4096, api.ErrRange}, {9, 4097, api.ErrMany}, {-1, 100000, api.ErrMany}} {
		if _, e := bath.Make(idle, longs("0"), slices.Repeat([]int{x.move}, x.count)); e != x.e {
			t.Error(x, e)
		}
	}
	if _, e := bath.Make(idle, longs("2"), make([]int, 4097)); e != api.ErrRange {
		t.Error(e)
	}
}

// P11.5: weights that no move changes, and numbers that are none.
func TestCheckWeights(t *testing.T) {
	top, below := "1048576", "-1048576"
	back := shop("1 1", "1 0>0 1, 0 1>1 0")
	for i, x := range []struct {
		b       api.BathSpec
		weights string
		e       api.Errno
	}{
		{chapter(), "1 2 1", api.OK},
		{chapter(), "1 1 1", api.ErrSum},
		{chapter(), "0 0 0", api.OK},
		{chapter(), "-1 -2 -1", api.OK},
		{chapter(), "524288 1048576 524288", api.OK},
		{chapter(), "-524288 -1048576 -524288", api.OK},
		{chapter(), "524287 1048576 524288", api.ErrSum},
		{chapter(), "1 2 0", api.ErrSum},
		{chapter(), "1 2 2", api.ErrSum},
		{chapter(), "1 3 1", api.ErrSum},
		{chapter(), "0 0 1", api.ErrSum},
		{chapter(), "1 0 0", api.ErrSum},
		{chapter(), "1048575 2097150 1048575", api.ErrRange},
		{chapter(), top + " " + top + " " + top, api.ErrSum},
		{chapter(), "0 0 1048577", api.ErrRange},
		{chapter(), "-1048577 0 0", api.ErrRange},
		{chapter(), "0 9223372036854775807 0", api.ErrRange},
		{chapter(), "0 -9223372036854775808 0", api.ErrRange},
		{chapter(), "1 2", api.ErrEqual},
		{chapter(), "1 2 1 0", api.ErrEqual},
		{chapter(), "", api.ErrEqual},
		{chapter(), "9223372036854775807 0", api.ErrEqual},
		{back, top + " " + top, api.OK},
		{back, below + " " + below, api.OK},
		{back, top + " " + below, api.ErrSum},
		{back, top + " 1048575", api.ErrSum},
		// A move that cannot be made counts; the last move changes them; without moves nothing does.
		{shop("0 0", "5 0>0 4"), "4 5", api.OK},
		{shop("0 0", "5 0>0 4"), "5 4", api.ErrSum},
		{shop("9 9", "1 1>1 1, 2 2>2 2, 0 1>0 0"), "1 0", api.OK},
		{shop("9 9", "1 1>1 1, 2 2>2 2, 0 1>0 0"), "0 1", api.ErrSum},
		{shop("9 9", ""), top + " " + below, api.OK},
		{shop("9", ""), "1048577", api.ErrRange},
		{shop("9", "1>2"), "0", api.OK},
		{shop("9", "1>2"), "1", api.ErrSum},
	} {
		if e := bath.CheckWeights(x.b, longs(x.weights)); e != x.e {
			t.Error(i, e)
		}
	}
	if e := bath.CheckWeights(chapter(), make([]int64, 100000)); e != api.ErrEqual {
		t.Error(e)
	}
}

// P11.6: mixtures that give the way, and numbers that are none.
func TestCheckMix(t *testing.T) {
	half := shop("9", "0>2")
	for i, x := range []struct {
		b        api.BathSpec
		from, to string
		x        api.BathMix
		e        api.Errno
	}{
		{chapter(), "5 0 0", "0 1 3", mix("1 3 0", 1), api.OK},
		{chapter(), "5 0 0", "0 1 3", mix("2 3 1", 1), api.OK},
		{chapter(), "5 0 0", "0 1 3", mix("0 3 -1", 1), api.OK},
		{chapter(), "5 0 0", "0 1 3", mix("-1 3 -2", 1), api.OK},
		{chapter(), "5 0 0", "0 1 3", mix("2 6 0", 2), api.OK},
		{chapter(), "5 0 0", "0 1 3", mix("1 6 -1", 2), api.OK},
		{chapter(), "5 0 0", "0 1 3", mix("349525 1048575 0", 349525), api.OK},
		{chapter(), "5 0 0", "0 1 3", mix("1 3 0", 2), api.ErrSum},
		{chapter(), "5 0 0", "0 1 3", mix("2 6 0", 1), api.ErrSum},
		{chapter(), "5 0 0", "0 1 3", mix("1 3 1", 1), api.ErrSum},
		{chapter(), "5 0 0", "0 1 3", mix("1 2 0", 1), api.ErrSum},
		{chapter(), "5 0 0", "0 1 3", mix("-1 -3 0", 1), api.ErrSum},
		{chapter(), "0 1 3", "5 0 0", mix("-1 -3 0", 1), api.OK},
		{chapter(), "0 1 3", "5 0 0", mix("1 3 0", 1), api.ErrSum},
		{chapter(), "5 0 0", "0 1 4", mix("1 3 0", 1), api.ErrSum},
		{chapter(), "5 0 0", "0 1 4", mix("1 4 0", 1), api.ErrSum},
		{chapter(), "5 0 0", "5 0 0", mix("0 0 0", 1), api.OK},
		{chapter(), "5 0 0", "5 0 0", mix("1 0 1", 1048576), api.OK},
		{chapter(), "5 0 0", "5 0 0", mix("1048576 0 1048576", 1), api.OK},
		{chapter(), "5 0 0", "5 0 0", mix("-1048576 0 -1048576", 1), api.OK},
		{chapter(), "5 0 0", "5 0 0", mix("1 0 0", 1), api.ErrSum},
		{half, "2", "3", mix("1", 2), api.OK},
		{half, "3", "2", mix("-1", 2), api.OK},
		{half, "2", "3", mix("524288", 1048576), api.OK},
		{half, "0", "2", mix("1048576", 1048576), api.OK},
		{half, "0", "8", mix("1048576", 262144), api.OK},
		{half, "8", "0", mix("-1048576", 262144), api.OK},
		{half, "2", "3", mix("524287", 1048576), api.ErrSum},
		{shop("3", ""), "2", "2", mix("", 7), api.OK},
		{shop("3", ""), "2", "1", mix("", 7), api.ErrSum},
		// A move that cannot be made counts.
		{shop("1 1", "5 0>0 5"), "1 0", "0 1", mix("1", 5), api.OK},
		{shop("1 1", "5 0>0 4"), "1 0", "0 1", mix("1", 5), api.ErrSum},
		{shop("1 1", "4 0>0 5"), "1 0", "0 1", mix("1", 5), api.ErrSum},
		// Numbers that are too great, or a Den that is none.
		{half, "2", "3", mix("1", 0), api.ErrRange},
		{half, "3", "2", mix("1", -2), api.ErrRange},
		{half, "2", "2", mix("0", 1048577), api.ErrRange},
		{half, "2", "2", mix("0", math.MaxInt64), api.ErrRange},
		{half, "2", "2", mix("0", math.MinInt64), api.ErrRange},
		{half, "2", "2", mix("1048577", 1), api.ErrRange},
		{half, "2", "2", mix("-1048577", 1), api.ErrRange},
		{half, "2", "2", mix("9223372036854775807", 1), api.ErrRange},
		{half, "2", "2", mix("-9223372036854775808", 1), api.ErrRange},
		{half, "2", "2", mix("1", 1), api.ErrSum},
		{chapter(), "5 0 0", "5 0 0", mix("0 0 1048577", 1), api.ErrRange},
		{shop("3", ""), "2", "2", mix("", 0), api.ErrRange},
		// As many numbers as moves.
		{chapter(), "5 0 0", "0 1 3", mix("1 3", 1), api.ErrEqual},
		{chapter(), "5 0 0", "0 1 3", mix("1 3 0 0", 1), api.ErrEqual},
		{chapter(), "5 0 0", "0 1 3", mix("1048577 3", 0), api.ErrEqual},
		{chapter(), "5 0 0", "5 0 0", api.BathMix{}, api.ErrEqual},
		{shop("3", ""), "2", "2", mix("0", 0), api.ErrEqual},
		{shop("3", ""), "2", "2", api.BathMix{}, api.ErrRange},
	} {
		if e := bath.CheckMix(x.b, longs(x.from), longs(x.to), x.x); e != x.e {
			t.Error(i, e)
		}
	}
	if e := bath.CheckMix(chapter(), longs("0 0 0"), longs("0 0 0"), api.BathMix{Times: make([]int64, 100000), Den: 1}); e != api.ErrEqual {
		t.Error(e)
	}
}
