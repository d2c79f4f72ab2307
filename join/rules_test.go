package join_test

import (
	"math"
	"reflect"
	"slices"
	"testing"

	"mandrel/api"
	"mandrel/join"
)

// results returns what all functions return for a cylinder, a list of steps, and a number.
func results(c api.JoinCylinder, l []api.JoinStep, from, to api.JoinStep, number int64) []any {
	var all []any
	one := func(x any, e api.Errno) { all = append(all, x, e) }
	all = append(all, join.CheckCylinder(c), join.CheckJoin(c, l))
	one(join.Fits(c, from, to))
	one(join.Count(c))
	one(join.Nth(c, number))
	one(join.Rank(c, l))
	one(join.Only(c))
	one(join.Passages(c))
	one(join.Rivals(c, from))
	return all
}

// R5, R10: no argument is changed, not behind its end either, and equal calls return equal results.
func TestArguments(t *testing.T) {
	for i, c := range []api.JoinCylinder{chapterC(), chapterD(), broken(), alike(8, true)} {
		room := append(slices.Clone(c.Pieces), slices.Repeat([]api.JoinPiece{piece(7, 8, true)}, 9)...)
		before := slices.Clone(room)
		c.Pieces = room[:len(c.Pieces)]
		l := steps("013299999")
		part := l[:min(4, len(c.Pieces))]
		first := results(c, part, step("1"), step("0"), 1)
		for range 3 {
			if again := results(c, part, step("1"), step("0"), 1); !reflect.DeepEqual(first, again) {
				t.Error(i, first, again)
			}
		}
		if !slices.Equal(room, before) || !slices.Equal(l, steps("013299999")) {
			t.Error(i, room, l)
		}
	}
}

// spoil overwrites all that a list has room for, and returns it as it was.
func spoil[T any](l []T, by T) []T {
	was := slices.Clone(l)
	l = l[:cap(l)]
	for i := range l {
		l[i] = by
	}
	return was
}

// R5: a result shares no memory with an argument or another result.
func TestResults(t *testing.T) {
	c, d := chapterC(), chapterD()
	for i, call := range []func() []api.JoinStep{
		func() []api.JoinStep { l, _ := join.Nth(c, 3); return l },
		func() []api.JoinStep { l, _ := join.Only(d); return l },
		func() []api.JoinStep { l, _ := join.Rivals(c, step("1")); return l },
	} {
		other := call()
		was := spoil(call(), step("9"))
		if len(was) == 0 || !slices.Equal(was, other) || !slices.Equal(was, call()) {
			t.Error(i, was, other)
		}
	}
	other, _ := join.Passages(d)
	l, _ := join.Passages(d)
	was := spoil(l, pairs("99")[0])
	if again, _ := join.Passages(d); !slices.Equal(was, other) || !slices.Equal(was, again) {
		t.Error(was, other, again)
	}
	if !reflect.DeepEqual(c, chapterC()) || !reflect.DeepEqual(d, chapterD()) {
		t.Error(c, d)
	}
}

// R3: a nil list and an empty one are the same.
func TestNil(t *testing.T) {
	a := results(api.JoinCylinder{}, nil, step("0"), step("1"), 0)
	b := results(api.JoinCylinder{Pieces: []api.JoinPiece{}}, []api.JoinStep{}, step("0"), step("1"), 0)
	if !reflect.DeepEqual(a, b) {
		t.Error(a, b)
	}
	if e := join.CheckJoin(chapterC(), []api.JoinStep{}); e != api.ErrEqual {
		t.Error(e)
	}
}

// P1, R6, R2: every call ends without a panic, with an error of the chapter or none, whatever the numbers are, and with an error all else is zero.
func TestAnyNumber(t *testing.T) {
	ints := []int{math.MinInt, -1, 0, 1, 7, 8, 64, math.MaxInt}
	longs := []int64{math.MinInt64, math.MinInt64 + 1, -100001, -1, 0, 1, 1000, 1001, 100000, 100001, math.MaxInt64 - 1, math.MaxInt64}
	try := func(c api.JoinCylinder, a, b int, n int64) {
		from, to := api.JoinStep{Piece: a, Turned: n > 0}, api.JoinStep{Piece: b, Turned: n < 0}
		all := results(c, []api.JoinStep{from, to}, from, to, n)
		for i, x := range all {
			e, ok := x.(api.Errno)
			if !ok {
				continue
			}
			if !slices.Contains([]api.Errno{0, 2, 3, 5, 6, 11, 15, 18}, e) {
				t.Error(c, from, to, n, i, e)
			}
			if i > 1 && e != api.OK && !reflect.ValueOf(all[i-1]).IsZero() {
				t.Error(c, from, to, n, i, e, all[i-1])
			}
		}
	}
	for _, n := range longs {
		for _, m := range longs {
			off, gap, depth, place := alike(2, true), alike(2, true), alike(2, true), alike(2, true)
			off.Off = n
			gap.Step = rg(n, m)
			depth.Pieces[1].Ends[0].Depth = rg(n, m)
			place.Pieces[0].Ends[0].Place, place.Pieces[1].Ends[1].Place = n, m
			for _, a := range ints {
				for _, b := range []int{0, 1, math.MaxInt} {
					try(off, a, b, n)
					try(gap, a, b, m)
					try(depth, a, b, n)
					try(place, b, a, m)
				}
			}
		}
	}
}

// README.md tells these numbers.
func TestReadme(t *testing.T) {
	c := api.JoinCylinder{Off: 2, Step: rg(0, 40), Pieces: []api.JoinPiece{
		{Ends: [2]api.JoinEnd{{Depth: rg(51, 53), Place: 620}, {Depth: rg(48, 50), Place: 900}}},
		{Ends: [2]api.JoinEnd{{Depth: rg(55, 58), Place: 610}, {Depth: rg(60, 62), Place: 300}}, Loose: true},
		{Ends: [2]api.JoinEnd{{Depth: rg(63, 64), Place: 0}, {Depth: rg(62, 63), Place: 290}}},
	}}
	if n, e := join.Count(c); n != 1 || e != api.OK {
		t.Error(n, e)
	}
	if l, e := join.Only(c); !slices.Equal(l, steps("2 1' 0")) || e != api.OK {
		t.Error(l, e)
	}
	if l, e := join.Passages(c); !slices.Equal(l, pairs("1'0 21'")) || e != api.OK {
		t.Error(l, e)
	}
}
