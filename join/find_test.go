package join_test

import (
	"math"
	"slices"
	"testing"

	"mandrel/api"
	"mandrel/join"
)

// broken returns a cylinder with two pieces that do not fit.
func broken() api.JoinCylinder {
	return api.JoinCylinder{Pieces: []api.JoinPiece{piece(1, 2, false), piece(3, 4, false)}}
}

// The chapter's examples, except those of CheckJoin, which TestJoin has.
func TestExamples(t *testing.T) {
	c, d := chapterC(), chapterD()
	if n, e := join.Count(c); n != 4 || e != api.OK {
		t.Error(n, e)
	}
	if n, e := join.Count(d); n != 1 || e != api.OK {
		t.Error(n, e)
	}
	for i, x := range []string{"0132", "013'2", "0312", "03'12"} {
		if l, e := join.Nth(c, int64(i)); !slices.Equal(l, steps(x)) || e != api.OK {
			t.Error(i, l, e)
		}
	}
	if n, e := join.Rank(c, steps("0 3 1 2")); n != 2 || e != api.OK {
		t.Error(n, e)
	}
	if l, e := join.Only(c); len(l) != 0 || e != api.ErrMany {
		t.Error(l, e)
	}
	if l, e := join.Only(d); !slices.Equal(l, steps("012")) || e != api.OK {
		t.Error(l, e)
	}
	if l, e := join.Passages(c); len(l) != 0 || e != api.OK {
		t.Error(l, e)
	}
	if l, e := join.Passages(d); !slices.Equal(l, pairs("01 12")) || e != api.OK {
		t.Error(l, e)
	}
	for _, x := range []struct{ s, rivals string }{{"0", "133'"}, {"2", ""}, {"1", "233'"}} {
		if l, e := join.Rivals(c, step(x.s)); !slices.Equal(l, steps(x.rivals)) || e != api.OK {
			t.Error(x, l, e)
		}
	}
	if fits, e := join.Fits(d, step("0"), step("2")); !fits || e != api.OK {
		t.Error(fits, e)
	}
	if fits, e := join.Fits(d, step("2"), step("0")); fits || e != api.OK {
		t.Error(fits, e)
	}
}

// P2.4: the counts of pieces of which each fits behind each other one.
func TestCount(t *testing.T) {
	want := int64(1)
	for n := 1; n <= api.MaxJoinPieces; n++ {
		want *= int64(n)
		if got, e := join.Count(alike(n, false)); got != want || e != api.OK {
			t.Error(n, got, e)
		}
		if got, e := join.Count(alike(n, true)); got != want<<n || e != api.OK {
			t.Error(n, got, e)
		}
	}
	if n, e := join.Count(broken()); n != 0 || e != api.OK {
		t.Error(n, e)
	}
}

// P2.5: the numbers at the ends of those that joins have, and beyond.
func TestNth(t *testing.T) {
	for i, x := range []struct {
		c api.JoinCylinder
		n int64
		l string
		e api.Errno
	}{
		{chapterC(), -1, "", api.ErrRange},
		{chapterC(), 4, "", api.ErrRange},
		{chapterC(), math.MinInt64, "", api.ErrRange},
		{chapterC(), math.MaxInt64, "", api.ErrRange},
		{broken(), 0, "", api.ErrRange},
		{broken(), -1, "", api.ErrRange},
		{alike(1, false), 0, "0", api.OK},
		{alike(1, false), 1, "", api.ErrRange},
		{alike(1, true), 1, "0'", api.OK},
		{alike(1, true), 2, "", api.ErrRange},
		{alike(2, true), 0, "01", api.OK},
		{alike(2, true), 1, "01'", api.OK},
		{alike(2, true), 2, "0'1", api.OK},
		{alike(2, true), 4, "10", api.OK},
		{alike(2, true), 7, "1'0'", api.OK},
		{alike(8, false), 40319, "76543210", api.OK},
		{alike(8, true), 0, "01234567", api.OK},
		{alike(8, true), 10321919, "7'6'5'4'3'2'1'0'", api.OK},
		{alike(8, true), 10321920, "", api.ErrRange},
	} {
		l, e := join.Nth(x.c, x.n)
		if !slices.Equal(l, steps(x.l)) || e != x.e {
			t.Error(i, l, e)
		}
		if e != api.OK {
			continue
		}
		if n, e := join.Rank(x.c, l); n != x.n || e != api.OK {
			t.Error(i, n, e)
		}
	}
}

// P2.7, P2.8: without a join, with one and with several ones.
func TestOnlyAndPassages(t *testing.T) {
	// The first two pieces always meet, since their end and beginning are as deep as nothing else.
	held := api.JoinCylinder{Pieces: []api.JoinPiece{piece(1, 2, false), piece(2, 3, false), piece(3, 3, true)}}
	// A circle of pieces may begin anywhere, so that no pair is in each join.
	circle := api.JoinCylinder{Pieces: []api.JoinPiece{piece(1, 2, false), piece(2, 3, false), piece(3, 1, false)}}
	// What comes first has the greatest number: pairs are in the order of their first steps, not in that of the join.
	down := api.JoinCylinder{Pieces: []api.JoinPiece{piece(3, 4, false), piece(2, 3, false), piece(1, 2, false)}}
	turned := api.JoinCylinder{Pieces: []api.JoinPiece{piece(3, 2, true), piece(1, 2, false), piece(4, 3, true)}}
	for i, x := range []struct {
		c      api.JoinCylinder
		only   string
		e      api.Errno
		shared string
		f      api.Errno
	}{
		{broken(), "", api.ErrNone, "", api.ErrNone},
		{alike(1, false), "0", api.OK, "", api.OK},
		{alike(1, true), "", api.ErrMany, "", api.OK},
		{held, "", api.ErrMany, "01", api.OK},
		{circle, "", api.ErrMany, "", api.OK},
		{down, "210", api.OK, "10 21", api.OK},
		{turned, "10'2'", api.OK, "0'2' 10'", api.OK},
		{alike(8, true), "", api.ErrMany, "", api.OK},
	} {
		if l, e := join.Only(x.c); !slices.Equal(l, steps(x.only)) || e != x.e {
			t.Error(i, l, e)
		}
		if l, e := join.Passages(x.c); !slices.Equal(l, pairs(x.shared)) || e != x.f {
			t.Error(i, l, e)
		}
	}
}

// P2.9: a step that no join has, one that fits but in no join, one at the end, and one that is the last of some joins only.
func TestRivals(t *testing.T) {
	// Piece 2 can be played forwards only behind all others, and backwards nowhere.
	c := api.JoinCylinder{Pieces: []api.JoinPiece{piece(1, 2, false), piece(2, 3, false), piece(3, 4, true)}}
	// 2 fits behind 0, but then nothing leads to 1.
	d := chapterD()
	for i, x := range []struct {
		c         api.JoinCylinder
		s, rivals string
		e         api.Errno
	}{
		{c, "0", "1", api.OK},
		{c, "1", "2", api.OK},
		{c, "2", "", api.OK},
		{c, "2'", "", api.ErrNone},
		{c, "1'", "", api.ErrArg},
		{c, "3", "", api.ErrArg},
		{d, "0", "1", api.OK},
		{broken(), "0", "", api.ErrNone},
		{broken(), "0'", "", api.ErrArg},
		{broken(), "2", "", api.ErrArg},
		{alike(1, true), "0", "", api.OK},
		{alike(1, true), "0'", "", api.OK},
		{alike(1, false), "0'", "", api.ErrArg},
		{alike(3, true), "1'", "00'22'", api.OK},
		{alike(8, true), "3", "00'11'22'44'55'66'77'", api.OK},
	} {
		if l, e := join.Rivals(x.c, step(x.s)); !slices.Equal(l, steps(x.rivals)) || e != x.e {
			t.Error(i, l, e)
		}
	}
	if l, e := join.Rivals(d, api.JoinStep{Piece: -1}); len(l) != 0 || e != api.ErrArg {
		t.Error(l, e)
	}
}
