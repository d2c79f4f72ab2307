package join_test

import (
	"math"
	"slices"
	"testing"

	"mandrel/api"
	"mandrel/join"
)

func rg(lo, hi int64) api.Range { return api.Range{Lo: lo, Hi: hi} }

// piece returns a piece from one known depth to another one, at the place 0.
func piece(from, to int64, loose bool) api.JoinPiece {
	return api.JoinPiece{Ends: [2]api.JoinEnd{{Depth: rg(from, from)}, {Depth: rg(to, to)}}, Loose: loose}
}

// chapterD and chapterC return the cylinders of the chapter's examples.
func chapterD() api.JoinCylinder {
	return api.JoinCylinder{Pieces: []api.JoinPiece{piece(1, 2, false), piece(2, 2, false), piece(2, 3, false)}}
}
func chapterC() api.JoinCylinder {
	c := chapterD()
	c.Pieces = append(c.Pieces, piece(2, 2, true))
	return c
}

// steps reads steps as the chapter writes them: one digit for each piece, with a stroke behind one that is turned.
func steps(text string) []api.JoinStep {
	var l []api.JoinStep
	for _, r := range text {
		switch r {
		case ' ':
		case '\'':
			l[len(l)-1].Turned = true
		default:
			l = append(l, api.JoinStep{Piece: int(r - '0')})
		}
	}
	return l
}

// step reads one step.
func step(text string) api.JoinStep { return steps(text)[0] }

// pairs reads pairs, two steps each.
func pairs(text string) []api.JoinPair {
	var l []api.JoinPair
	s := steps(text)
	for i := 0; i < len(s); i += 2 {
		l = append(l, api.JoinPair{From: s[i], To: s[i+1]})
	}
	return l
}

// alike returns a cylinder of pieces that all fit behind each other.
func alike(count int, loose bool) api.JoinCylinder {
	return api.JoinCylinder{Pieces: slices.Repeat([]api.JoinPiece{piece(5, 5, loose)}, count)}
}

// P2.1, and all functions return the error of CheckCylinder before all others.
func TestCylinder(t *testing.T) {
	with := func(change func(c *api.JoinCylinder)) api.JoinCylinder {
		c := chapterC()
		change(&c)
		return c
	}
	end := func(i, j int, depth api.Range, place int64) api.JoinCylinder {
		return with(func(c *api.JoinCylinder) { c.Pieces[i].Ends[j] = api.JoinEnd{Depth: depth, Place: place} })
	}
	off := func(n int64) api.JoinCylinder { return with(func(c *api.JoinCylinder) { c.Off = n }) }
	gap := func(lo, hi int64) api.JoinCylinder {
		return with(func(c *api.JoinCylinder) { c.Step = rg(lo, hi) })
	}
	bad := func(count int) api.JoinCylinder {
		c := alike(count, false)
		c.Off = -1
		return c
	}
	for i, x := range []struct {
		c api.JoinCylinder
		e api.Errno
	}{
		{chapterC(), api.OK},
		{alike(1, false), api.OK},
		{alike(8, true), api.OK},
		{api.JoinCylinder{}, api.ErrMany},
		{alike(9, false), api.ErrMany},
		{bad(0), api.ErrMany},
		{bad(9), api.ErrMany},
		{bad(8), api.ErrArg},
		{off(0), api.OK},
		{off(1000), api.OK},
		{off(-1), api.ErrArg},
		{off(1001), api.ErrArg},
		{off(math.MinInt64), api.ErrArg},
		{off(math.MaxInt64), api.ErrArg},
		{gap(-100000, 100000), api.OK},
		{gap(-100000, -100000), api.OK},
		{gap(100000, 100000), api.OK},
		{gap(-100001, 0), api.ErrArg},
		{gap(0, 100001), api.ErrArg},
		{gap(1, 0), api.ErrArg},
		{gap(math.MinInt64, math.MaxInt64), api.ErrArg},
		{gap(math.MaxInt64, math.MinInt64), api.ErrArg},
		{end(0, 0, rg(0, 1000), 100000), api.OK},
		{end(3, 1, rg(0, 1000), 100000), api.OK},
		{end(3, 1, rg(1000, 1000), 0), api.OK},
		{end(0, 0, rg(-1, 2), 0), api.ErrArg},
		{end(0, 1, rg(-1, 2), 0), api.ErrArg},
		{end(3, 1, rg(0, 1001), 0), api.ErrArg},
		{end(3, 0, rg(0, 1001), 0), api.ErrArg},
		{end(2, 0, rg(2, 1), 0), api.ErrArg},
		{end(2, 1, rg(2, 1), 0), api.ErrArg},
		{end(1, 0, rg(1, 1), -1), api.ErrArg},
		{end(1, 1, rg(1, 1), -1), api.ErrArg},
		{end(1, 0, rg(1, 1), 100001), api.ErrArg},
		{end(1, 1, rg(1, 1), 100001), api.ErrArg},
		{end(3, 0, rg(math.MinInt64, math.MaxInt64), 0), api.ErrArg},
		{end(3, 0, rg(0, 0), math.MinInt64), api.ErrArg},
	} {
		if e := join.CheckCylinder(x.c); e != x.e {
			t.Error(i, e)
		}
		if x.e == api.OK {
			continue
		}
		for _, n := range []int64{-1, 0, math.MaxInt64} {
			l := steps("9'9")
			s := l[0]
			fits, e1 := join.Fits(x.c, s, l[1])
			e2 := join.CheckJoin(x.c, l)
			count, e3 := join.Count(x.c)
			nth, e4 := join.Nth(x.c, n)
			rank, e5 := join.Rank(x.c, l)
			only, e6 := join.Only(x.c)
			shared, e7 := join.Passages(x.c)
			rivals, e8 := join.Rivals(x.c, s)
			for j, e := range []api.Errno{e1, e2, e3, e4, e5, e6, e7, e8} {
				if e != x.e {
					t.Error(i, j, e)
				}
			}
			if fits || count != 0 || len(nth) != 0 || rank != 0 || len(only) != 0 || len(shared) != 0 || len(rivals) != 0 {
				t.Error(i, fits, count, nth, rank, only, shared, rivals)
			}
		}
	}
}

// P2.2: which steps there are.
func TestFitsSteps(t *testing.T) {
	c := chapterC()
	for _, x := range []struct {
		s api.JoinStep
		e api.Errno
	}{
		{step("0"), api.OK},
		{step("3"), api.OK},
		{step("3'"), api.OK},
		{step("0'"), api.ErrArg},
		{step("2'"), api.ErrArg},
		{step("4"), api.ErrArg},
		{step("4'"), api.ErrArg},
		{api.JoinStep{Piece: -1}, api.ErrArg},
		{api.JoinStep{Piece: -1, Turned: true}, api.ErrArg},
		{api.JoinStep{Piece: math.MaxInt}, api.ErrArg},
		{api.JoinStep{Piece: math.MinInt, Turned: true}, api.ErrArg},
	} {
		if fits, e := join.Fits(c, x.s, step("1")); e != x.e || e != api.OK && fits {
			t.Error(x.s, fits, e)
		}
		if fits, e := join.Fits(c, step("1"), x.s); e != x.e || e != api.OK && fits {
			t.Error(x.s, fits, e)
		}
		if _, e := join.Rivals(c, x.s); e != x.e {
			t.Error(x.s, e)
		}
	}
}

// P2.2: when a step fits behind another one.
func TestFits(t *testing.T) {
	for i, x := range []struct {
		off           int64
		gap           api.Range
		end, begin    api.Range
		endAt, beginA int64
		fits          bool
	}{
		{0, rg(0, 0), rg(2, 2), rg(2, 2), 0, 0, true},
		{0, rg(0, 0), rg(2, 2), rg(3, 3), 0, 0, false},
		{0, rg(0, 0), rg(3, 3), rg(2, 2), 0, 0, false},
		{1, rg(0, 0), rg(2, 2), rg(3, 3), 0, 0, true},
		{1, rg(0, 0), rg(3, 3), rg(2, 2), 0, 0, true},
		{1, rg(0, 0), rg(2, 2), rg(4, 4), 0, 0, false},
		{1, rg(0, 0), rg(4, 4), rg(2, 2), 0, 0, false},
		{0, rg(0, 0), rg(1, 5), rg(5, 9), 0, 0, true},
		{0, rg(0, 0), rg(5, 9), rg(1, 5), 0, 0, true},
		{0, rg(0, 0), rg(1, 4), rg(5, 9), 0, 0, false},
		{0, rg(0, 0), rg(5, 9), rg(1, 4), 0, 0, false},
		{3, rg(0, 0), rg(1, 4), rg(7, 9), 0, 0, true},
		{3, rg(0, 0), rg(7, 9), rg(1, 4), 0, 0, true},
		{3, rg(0, 0), rg(1, 4), rg(8, 9), 0, 0, false},
		{3, rg(0, 0), rg(8, 9), rg(1, 4), 0, 0, false},
		{0, rg(0, 0), rg(1, 9), rg(3, 4), 0, 0, true},
		{0, rg(0, 0), rg(3, 4), rg(1, 9), 0, 0, true},
		{1000, rg(0, 0), rg(0, 0), rg(1000, 1000), 0, 0, true},
		{999, rg(0, 0), rg(0, 0), rg(1000, 1000), 0, 0, false},
		{999, rg(0, 0), rg(1000, 1000), rg(0, 0), 0, 0, false},
		{0, rg(2, 5), rg(2, 2), rg(2, 2), 10, 11, false},
		{0, rg(2, 5), rg(2, 2), rg(2, 2), 10, 12, true},
		{0, rg(2, 5), rg(2, 2), rg(2, 2), 10, 15, true},
		{0, rg(2, 5), rg(2, 2), rg(2, 2), 10, 16, false},
		{0, rg(2, 5), rg(2, 2), rg(2, 2), 10, 7, false},
		{0, rg(-5, -2), rg(2, 2), rg(2, 2), 10, 4, false},
		{0, rg(-5, -2), rg(2, 2), rg(2, 2), 10, 5, true},
		{0, rg(-5, -2), rg(2, 2), rg(2, 2), 10, 8, true},
		{0, rg(-5, -2), rg(2, 2), rg(2, 2), 10, 9, false},
		{0, rg(-100000, -100000), rg(2, 2), rg(2, 2), 100000, 0, true},
		{0, rg(-99999, 100000), rg(2, 2), rg(2, 2), 100000, 0, false},
		{0, rg(100000, 100000), rg(2, 2), rg(2, 2), 0, 100000, true},
		{0, rg(-100000, 99999), rg(2, 2), rg(2, 2), 0, 100000, false},
	} {
		// The other ends fit with nothing, and each pair of steps meets at the same two ends.
		far := api.JoinEnd{Depth: rg(500, 500), Place: 50000}
		end, begin := api.JoinEnd{Depth: x.end, Place: x.endAt}, api.JoinEnd{Depth: x.begin, Place: x.beginA}
		for _, y := range []struct {
			from, to   string
			one, other [2]api.JoinEnd
		}{
			{"0", "1", [2]api.JoinEnd{far, end}, [2]api.JoinEnd{begin, far}},
			{"0'", "1", [2]api.JoinEnd{end, far}, [2]api.JoinEnd{begin, far}},
			{"0", "1'", [2]api.JoinEnd{far, end}, [2]api.JoinEnd{far, begin}},
			{"0'", "1'", [2]api.JoinEnd{end, far}, [2]api.JoinEnd{far, begin}},
		} {
			c := api.JoinCylinder{Pieces: []api.JoinPiece{{Ends: y.one, Loose: true}, {Ends: y.other, Loose: true}}, Off: x.off, Step: x.gap}
			if fits, e := join.Fits(c, step(y.from), step(y.to)); fits != x.fits || e != api.OK {
				t.Error(i, y.from, y.to, fits, e)
			}
		}
	}
}

// P2.2: a step does not fit behind one of its own piece.
func TestFitsItself(t *testing.T) {
	c := alike(2, true)
	for i, from := range steps("00'11'") {
		for j, to := range steps("00'11'") {
			if fits, e := join.Fits(c, from, to); fits != (i/2 != j/2) || e != api.OK {
				t.Error(from, to, fits, e)
			}
		}
	}
}

// P2.3 and P2.6: which error comes first; with it no number.
func TestJoin(t *testing.T) {
	c := chapterC()
	for _, x := range []struct {
		l string
		e api.Errno
		n int64
	}{
		{"0132", api.OK, 0},
		{"013'2", api.OK, 1},
		{"0312", api.OK, 2},
		{"03'12", api.OK, 3},
		{"", api.ErrEqual, 0},
		{"012", api.ErrEqual, 0},
		{"01322", api.ErrEqual, 0},
		{"99999", api.ErrEqual, 0},
		{"003'", api.ErrEqual, 0},
		{"013'4", api.ErrArg, 0},
		{"4132", api.ErrArg, 0},
		{"0'132", api.ErrArg, 0},
		{"0'000", api.ErrArg, 0},
		{"0002'", api.ErrArg, 0},
		{"2012'", api.ErrArg, 0},
		{"0112", api.ErrHave, 0},
		{"0133'", api.ErrHave, 0},
		{"033'2", api.ErrHave, 0},
		{"0000", api.ErrHave, 0},
		{"2100", api.ErrHave, 0},
		{"0213", api.ErrCrack, 0},
		{"1032", api.ErrCrack, 0},
		{"0123", api.ErrCrack, 0},
		{"013'2", api.OK, 1},
	} {
		if e := join.CheckJoin(c, steps(x.l)); e != x.e {
			t.Error(x.l, e)
		}
		if n, e := join.Rank(c, steps(x.l)); n != x.n || e != x.e {
			t.Error(x.l, n, e)
		}
	}
	l := steps("0132")
	l[3].Piece = -1
	if e := join.CheckJoin(c, l); e != api.ErrArg {
		t.Error(e)
	}
	if e := join.CheckJoin(alike(1, false), steps("0")); e != api.OK {
		t.Error(e)
	}
}
