package bath_test

import (
	"math"
	"slices"
	"testing"

	"mandrel/api"
	"mandrel/bath"
)

// leads tells whether a way leads from a stock to another one.
func leads(b api.BathSpec, from, to []int64, way []int) bool {
	l, e := bath.Make(b, from, way)
	return e == api.OK && slices.Equal(l, to)
}

// reachOf returns the number of moves of the way that Reach finds, after it was checked, -1 if there is none.
func reachOf(t *testing.T, b api.BathSpec, from, to []int64) int {
	t.Helper()
	way, e := bath.Reach(b, from, to)
	switch {
	case e == api.OK && leads(b, from, to, way):
		return len(way)
	case e == api.ErrPlan && way == nil:
		return -1
	}
	t.Fatal(b, from, to, way, e)
	return 0
}

// mostOf returns what Most finds, and the number of moves of its way, after it was checked.
func mostOf(t *testing.T, b api.BathSpec, from []int64, kind int) (int64, int) {
	t.Helper()
	most, way, e := bath.Most(b, from, kind)
	l, f := bath.Make(b, from, way)
	if e != api.OK || f != api.OK || l[kind] != most {
		t.Fatal(b, from, kind, most, way, e, f)
	}
	return most, len(way)
}

// stuckOf returns the number of moves of the way that Stuck finds, after it was checked, -1 if there is none.
func stuckOf(t *testing.T, b api.BathSpec, from []int64) int {
	t.Helper()
	way, e := bath.Stuck(b, from)
	if e == api.ErrNone && way == nil {
		return -1
	}
	l, f := bath.Make(b, from, way)
	if e != api.OK || f != api.OK {
		t.Fatal(b, from, way, e, f)
	}
	for move := range b.Moves {
		if _, e := bath.Make(b, l, []int{move}); e != api.ErrState {
			t.Fatal(b, from, way, move, e)
		}
	}
	return len(way)
}

// stocksOf returns what Stocks finds.
func stocksOf(t *testing.T, b api.BathSpec, from []int64) int {
	t.Helper()
	n, e := bath.Stocks(b, from)
	if e != api.OK {
		t.Fatal(b, from, n, e)
	}
	return n
}

// sum returns the sum of products.
func sum(one, two []int64) int64 {
	var sum int64
	for i, n := range one {
		sum += n * two[i]
	}
	return sum
}

// keeps tells whether no move changes weights, as the chapter defines it.
func keeps(b api.BathSpec, weights []int64) bool {
	for _, m := range b.Moves {
		if sum(weights, m.Give) != sum(weights, m.Take) {
			return false
		}
	}
	return true
}

// gives tells whether a mixture gives a way, as the chapter defines it.
func gives(b api.BathSpec, from, to []int64, x api.BathMix) bool {
	for kind := range b.Caps {
		left := x.Den*to[kind] - x.Den*from[kind]
		for move, m := range b.Moves {
			left -= x.Times[move]*m.Give[kind] - x.Times[move]*m.Take[kind]
		}
		if left != 0 {
			return false
		}
	}
	return true
}

// small tells whether the amounts of all numbers are at most MaxBathNumber.
func small(numbers ...int64) bool {
	return !slices.ContainsFunc(numbers, func(n int64) bool { return n < -1048576 || n > 1048576 })
}

// partedOf tells whether weights part two stocks, by what Weights and Mix find, after both were checked: just one of them finds something.
func partedOf(t *testing.T, b api.BathSpec, from, to []int64) bool {
	t.Helper()
	w, e := bath.Weights(b, from, to)
	x, f := bath.Mix(b, from, to)
	if e == api.OK {
		if len(w) != len(b.Caps) || !small(w...) || !keeps(b, w) || sum(w, from) == sum(w, to) || bath.CheckWeights(b, w) != api.OK {
			t.Fatal(b, from, to, w)
		}
		if f != api.ErrNone || x.Times != nil || x.Den != 0 {
			t.Fatal(b, from, to, x, f)
		}
		return true
	}
	if e != api.ErrNone || w != nil || f != api.OK {
		t.Fatal(b, from, to, w, e, x, f)
	}
	if len(x.Times) != len(b.Moves) || x.Den < 1 || !small(append(x.Times, x.Den)...) || !gives(b, from, to, x) || bath.CheckMix(b, from, to, x) != api.OK {
		t.Fatal(b, from, to, x)
	}
	return false
}

// The chapter's examples, and example 11 of DOC.md.
func TestExamples(t *testing.T) {
	b, five := chapter(), longs("5 0 0")
	if n := reachOf(t, b, five, longs("0 1 3")); n != 4 {
		t.Error(n)
	}
	if n := reachOf(t, b, five, longs("0 1 4")); n != -1 {
		t.Error(n)
	}
	if !partedOf(t, b, five, longs("0 1 4")) || partedOf(t, b, five, longs("0 1 3")) {
		t.Error("parted")
	}
	if n := stocksOf(t, b, five); n != 10 {
		t.Error(n)
	}
	if most, n := mostOf(t, b, five, 2); most != 3 || n != 4 {
		t.Error(most, n)
	}
	if way, e := bath.Stuck(b, five); way != nil || e != api.ErrNone {
		t.Error(way, e)
	}
	if way, e := bath.Stuck(b, longs("1 0 4")); len(way) != 0 || e != api.OK {
		t.Error(way, e)
	}
}

// P11.3: the fewest moves to a stock.
func TestReach(t *testing.T) {
	count := counter()
	hops := shop("9", "0>1, 0>4, 3>0")
	for i, x := range []struct {
		b        api.BathSpec
		from, to string
		moves    int
	}{
		{chapter(), "5 0 0", "5 0 0", 0},
		{chapter(), "5 0 0", "3 1 0", 1},
		{chapter(), "5 0 0", "3 0 2", 4},
		{chapter(), "5 0 0", "1 2 0", 2},
		{chapter(), "0 1 3", "2 0 3", 1},
		{chapter(), "2 0 3", "0 1 3", 1},
		{chapter(), "0 1 3", "5 0 0", -1},
		{chapter(), "5 0 0", "6 0 0", -1},
		{chapter(), "6 3 6", "6 3 6", 0},
		{chapter(), "6 0 0", "0 3 0", 3},
		{chapter(), "0 3 0", "6 0 0", 3},
		{chapter(), "6 3 0", "0 0 6", -1},
		{chapter(), "6 3 0", "6 0 6", 9},
		{hops, "0", "1", 1},
		{hops, "0", "2", 2},
		{hops, "0", "3", 3},
		{hops, "0", "4", 1},
		{hops, "0", "5", 2},
		{hops, "0", "7", 4},
		{hops, "0", "8", 2},
		{hops, "0", "9", 3},
		{hops, "9", "0", 3},
		{hops, "8", "0", 4},
		{hops, "5", "4", 3},
		{hops, "4", "1", 1},
		{shop("3", ""), "2", "2", 0},
		{shop("3", ""), "2", "1", -1},
		{shop("0 0 0 0 0", "0 0 0 0 0>0 0 0 0 0"), "0 0 0 0 0", "0 0 0 0 0", 0},
		// A cap is in the way of moves that could be made one after another without it.
		{shop("2 2", "1 0>0 2, 0 3>1 0"), "2 0", "1 2", 1},
		{shop("2 2", "1 0>0 2, 0 3>1 0"), "2 0", "1 1", -1},
		{shop("2 4", "1 0>0 2, 0 3>1 0"), "2 0", "0 4", 2},
		{shop("2 4", "1 0>0 2, 0 3>1 0"), "2 0", "1 1", 3},
		// Weights do not part them, but no way leads there.
		{shop("9", "0>2"), "2", "3", -1},
		{shop("9", "0>2"), "4", "2", -1},
		{shop("1 1", "5 0>0 5"), "1 0", "0 1", -1},
		// Long ways.
		{count, "0 0 0 0 0", "5 5 5 5 2", 2532},
		{count, "0 0 0 0 0", "0 0 0 0 2", 1562},
		{count, "5 5 5 5 1", "5 5 5 5 2", 781},
		{count, "0 0 0 0 1", "5 5 5 5 0", -1},
		{count, "5 5 5 5 2", "0 0 0 0 0", -1},
		{full(), "9 9 4 3 1", "9 9 4 3 1", 0},
	} {
		if n := reachOf(t, x.b, longs(x.from), longs(x.to)); n != x.moves {
			t.Error(i, n)
		}
	}
}

// P11.4: how many stocks can be reached, and the most things of each kind.
func TestMost(t *testing.T) {
	rise := "0 0 0 0>1 0 0 0, 0 0 0 0>0 1 0 0, 0 0 0 0>0 0 1 0, 0 0 0 0>0 0 0 1"
	for i, x := range []struct {
		b           api.BathSpec
		from        string
		stocks      int
		most, moves string
	}{
		{chapter(), "5 0 0", 10, "5 2 3", "0 2 4"},
		{chapter(), "6 3 6", 1, "6 3 6", "0 0 0"},
		{chapter(), "1 0 4", 1, "1 0 4", "0 0 0"},
		{chapter(), "0 1 3", 2, "2 1 3", "1 0 0"},
		{chapter(), "6 3 5", 2, "6 3 6", "0 0 1"},
		{shop("9", "0>1, 0>4, 3>0"), "0", 10, "9", "3"},
		{shop("9", "0>1, 0>4, 3>0"), "8", 10, "9", "1"},
		{shop("9", "0>2"), "0", 5, "8", "4"},
		{shop("9", "0>2"), "1", 5, "9", "4"},
		{shop("9", "2>0"), "9", 5, "9", "0"},
		{shop("4", "0>3"), "2", 1, "2", "0"},
		{shop("4", "0>3"), "1", 2, "4", "1"},
		{shop("4", "0>3"), "0", 2, "3", "1"},
		{shop("5 5", "1 0>0 1"), "5 0", 6, "5 5", "0 5"},
		{shop("5 3", "1 0>0 1"), "5 0", 4, "5 3", "0 3"},
		{shop("1", "0>0"), "1", 1, "1", "0"},
		{shop("1", "2>2"), "1", 1, "1", "0"},
		{shop("0", ""), "0", 1, "0", "0"},
		{shop("7 7 7 7", ""), "4 3 2 1", 1, "4 3 2 1", "0 0 0 0"},
		{shop("7 7 7 7", rise), "0 0 0 0", 4096, "7 7 7 7", "7 7 7 7"},
		{shop("7 7 7 7", rise), "3 0 7 0", 320, "7 7 7 7", "4 7 0 7"},
		{counter(), "0 0 0 0 0", 3888, "5 5 5 5 2", "5 30 155 780 1562"},
		{counter(), "5 5 5 5 2", 1, "5 5 5 5 2", "0 0 0 0 0"},
	} {
		from := longs(x.from)
		if n := stocksOf(t, x.b, from); n != x.stocks {
			t.Error(i, n)
		}
		for kind := range x.b.Caps {
			if most, n := mostOf(t, x.b, from, kind); most != longs(x.most)[kind] || n != numbers(x.moves)[kind] {
				t.Error(i, kind, most, n)
			}
		}
	}
	for _, kind := range []int{-1, 3, 4, 5, math.MaxInt, math.MinInt} {
		if most, way, e := bath.Most(chapter(), longs("5 0 0"), kind); most != 0 || way != nil || e != api.ErrArg {
			t.Error(kind, most, way, e)
		}
	}
}

// P11.4: the fewest moves to a stock at which none can be made.
func TestStuck(t *testing.T) {
	for i, x := range []struct {
		b     api.BathSpec
		from  string
		moves int
	}{
		{chapter(), "5 0 0", -1},
		{chapter(), "1 0 4", 0},
		{chapter(), "0 0 6", 0},
		{chapter(), "6 3 6", 0},
		{chapter(), "6 3 5", 1},
		{chapter(), "0 1 3", -1},
		{shop("9", "2>1"), "9", 8},
		{shop("9", "2>1"), "1", 0},
		{shop("9", "2>1, 5>0"), "9", 4},
		{shop("9", "2>1, 5>0"), "6", 1},
		{shop("9", "2>1, 5>0"), "4", 3},
		{shop("9", "0>1, 0>4"), "0", 3},
		{shop("9", "0>1, 0>4, 3>0"), "0", -1},
		{shop("9", "0>4"), "0", 2},
		{shop("9", "0>4"), "5", 1},
		{shop("9", "0>4"), "6", 0},
		{shop("3", ""), "2", 0},
		{shop("1", "0>0"), "1", -1},
		{shop("1", "1>1"), "0", 0},
		{shop("1", "1>1"), "1", -1},
		{shop("1", "2>2"), "1", 0},
		{shop("5 5", "1 0>0 1"), "5 0", 5},
		{shop("5 5", "1 0>0 1, 0 1>1 0"), "5 0", -1},
		{shop("5 5", "1 0>0 1, 0 1>1 0"), "0 0", 0},
		{counter(), "0 0 0 0 0", 2532},
	} {
		if n := stuckOf(t, x.b, longs(x.from)); n != x.moves {
			t.Error(i, n)
		}
	}
}

// P11.5, P11.6: stocks that weights part, and stocks for which a mixture gives the way.
func TestParted(t *testing.T) {
	pairs := "1 0 0 0 0>0 1 0 0 0, 0 0 1 0 0>0 0 0 1 0"
	ring := pairs + ", 0 1 0 0 0>0 0 1 0 0, 0 0 0 1 0>0 0 0 0 1, 0 0 0 0 1>1 0 0 0 0"
	for i, x := range []struct {
		b        api.BathSpec
		from, to string
		parted   bool
	}{
		{chapter(), "5 0 0", "0 1 4", true},
		{chapter(), "5 0 0", "0 1 3", false},
		{chapter(), "0 1 3", "5 0 0", false},
		{chapter(), "5 0 0", "5 0 0", false},
		{chapter(), "0 0 0", "6 3 6", true},
		{chapter(), "6 3 0", "6 0 6", false},
		{chapter(), "6 0 0", "0 0 6", false},
		{shop("3", ""), "2", "2", false},
		{shop("3", ""), "2", "1", true},
		{shop("9", "1>1, 5>5"), "2", "3", true},
		{shop("9", "1>1, 5>5"), "3", "3", false},
		{shop("9", "0>2"), "2", "3", false},
		{shop("9", "0>2"), "3", "2", false},
		{shop("9", "1>1, 0>5, 5>5"), "0", "9", false},
		{shop("9 9", "0 1>1 0"), "1 0", "0 1", false},
		{shop("9 9", "0 1>1 0"), "1 0", "0 2", true},
		{shop("9 9", "0 1>1 0, 0 5>5 0"), "1 0", "0 2", true},
		{shop("9 9", "0 1>1 0, 0 5>4 0"), "1 0", "0 2", false},
		{shop("9 9", "0 2>3 0"), "9 0", "0 6", false},
		{shop("9 9", "0 2>3 0"), "9 0", "0 7", true},
		{shop("9 9", "0 2>3 0"), "9 0", "7 1", true},
		{shop("1 1", "5 0>0 5"), "1 0", "0 1", false},
		{shop("1 1 1 1 1", pairs), "1 0 1 0 0", "0 1 0 1 0", false},
		{shop("1 1 1 1 1", pairs), "1 0 1 0 0", "0 1 0 1 1", true},
		{shop("1 1 1 1 1", pairs), "1 0 0 0 0", "0 0 1 0 0", true},
		{shop("1 1 1 1 1", pairs), "1 0 0 1 0", "0 1 0 0 0", true},
		{shop("1 1 1 1 1", ring), "1 0 0 0 0", "0 0 0 1 0", false},
		{shop("1 1 1 1 1", ring), "1 1 0 1 1", "0 1 1 1 1", false},
		{shop("1 1 1 1 1", ring), "1 1 0 1 1", "0 1 1 0 1", true},
		{full(), "9 9 4 3 1", "0 0 0 0 0", false},
	} {
		if parted := partedOf(t, x.b, longs(x.from), longs(x.to)); parted != x.parted {
			t.Error(i, parted)
		}
	}
}

// P11.5, P11.6: weights and mixtures of great numbers.
func TestGreat(t *testing.T) {
	// Weights of 1, 5, 25, 125, 625 are the only ones, but for multiples.
	powers := shop("4 4 4 4 4", "5 0 0 0 0>0 1 0 0 0, 0 5 0 0 0>0 0 1 0 0, 0 0 5 0 0>0 0 0 1 0, 0 0 0 5 0>0 0 0 0 1")
	if !partedOf(t, powers, longs("0 0 0 0 0"), longs("4 0 0 0 0")) || partedOf(t, powers, longs("0 0 0 0 1"), longs("0 0 0 0 1")) {
		t.Error("parted")
	}
	w, e := bath.Weights(powers, longs("0 0 0 0 1"), longs("0 1 0 0 0"))
	if e != api.OK || w[0] == 0 || w[4] != 625*w[0] || w[2] != 25*w[0] {
		t.Error(w, e)
	}
	// With one move more there is just one mixture, whose numbers are not small.
	powers.Moves = append(powers.Moves, api.BathMove{Take: longs("0 0 0 0 5"), Give: longs("1 0 0 0 0")})
	if partedOf(t, powers, longs("0 0 0 0 1"), longs("0 0 4 0 0")) {
		t.Error("parted")
	}
	x, e := bath.Mix(powers, longs("0 0 0 0 0"), longs("1 0 0 0 0"))
	if e != api.OK || x.Den%3124 != 0 || slices.Contains(x.Times, 0) {
		t.Error(x, e)
	}
}
