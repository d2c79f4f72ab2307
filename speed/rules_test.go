package speed_test

import (
	"math"
	"reflect"
	"slices"
	"testing"

	"mandrel/api"
	"mandrel/speed"
)

// results returns what all functions return for a sheet and a list of names, of speeds too.
func results(s api.SpeedSheet, names []int, speeds []int64) []any {
	var l []any
	add := func(more ...any) { l = append(l, more...) }
	one := func(x any, e api.Errno) { add(x, e) }
	add(speed.CheckSheet(s), speed.CheckSpeeds(s, speeds), speed.CheckCircle(s, names))
	one(speed.Whole(s))
	one(speed.CheckWay(s, 3, 1, names))
	one(speed.Circle(s))
	one(speed.Span(s, 2))
	one(speed.Ends(s, true))
	one(speed.Ends(s, false))
	way, cost, e := speed.Way(s, 3, 1)
	add(way, cost, e)
	one(speed.Sung(s, 3, 40000))
	one(speed.Pipe(1, 43500, api.Range{Lo: 42000, Hi: 44000}))
	one(speed.Spring(1, 3, 300))
	return l
}

// R5, R10: no argument is changed, not behind its end either, and equal calls return equal results.
func TestArguments(t *testing.T) {
	for i, s := range []api.SpeedSheet{sheet(), sheet(clash())} {
		room := append(slices.Clone(s.Rules), slices.Repeat([]api.SpeedRule{rule(7, 7, 7)}, 50)...)
		before := slices.Clone(room)
		s.Rules = room[:len(s.Rules)]
		names, speeds := []int{5, 3, 9, 9}, []int64{16200, 16000, 15900, 9}
		first := results(s, names[:2], speeds[:3])
		second := results(s, names[:2], speeds[:3])
		if !reflect.DeepEqual(first, second) {
			t.Error(i, first, second)
		}
		if !slices.Equal(room, before) || !slices.Equal(names, []int{5, 3, 9, 9}) || !slices.Equal(speeds, []int64{16200, 16000, 15900, 9}) {
			t.Error(i, room, names, speeds)
		}
	}
}

// spoil overwrites all that a list has room for, and returns it as it was.
func spoil[T any](l []T, by T) []T {
	was := slices.Clone(l)
	l = l[:cap(l)]
	for i := range l {
		l[i] = by
	}
	return was
}

// R5: a result shares no memory with an argument or another result.
func TestResults(t *testing.T) {
	s, bad := sheet(), sheet(clash())
	for i, call := range []func() []api.SpeedRule{
		func() []api.SpeedRule { l, _ := speed.Whole(s); return l },
		func() []api.SpeedRule { l, _ := speed.Pipe(1, 43500, api.Range{Lo: 42000, Hi: 44000}); return l },
		func() []api.SpeedRule { l, _ := speed.Spring(1, 3, 300); return l },
	} {
		other := call()
		was := spoil(call(), rule(9, 9, 9))
		if !slices.Equal(was, other) || !slices.Equal(was, call()) {
			t.Error(i, was, other)
		}
	}
	for i, call := range []func() []int{
		func() []int { l, _ := speed.Circle(bad); return l },
		func() []int { l, _, _ := speed.Way(s, 3, 1); return l },
	} {
		other := call()
		was := spoil(call(), 99)
		if !slices.Equal(was, other) || !slices.Equal(was, call()) {
			t.Error(i, was, other)
		}
	}
	for _, high := range []bool{false, true} {
		other, _ := speed.Ends(s, high)
		l, _ := speed.Ends(s, high)
		was := spoil(l, 99)
		if again, _ := speed.Ends(s, high); !slices.Equal(was, other) || !slices.Equal(was, again) {
			t.Error(high, was, other, again)
		}
	}
	if !reflect.DeepEqual(s, sheet()) || !reflect.DeepEqual(bad, sheet(clash())) {
		t.Error(s, bad)
	}
}

// R3: a nil list and an empty one are the same.
func TestNil(t *testing.T) {
	a := results(api.SpeedSheet{Turns: 3}, nil, nil)
	b := results(api.SpeedSheet{Turns: 3, Rules: []api.SpeedRule{}}, []int{}, []int64{})
	if !reflect.DeepEqual(a, b) {
		t.Error(a, b)
	}
}

// P1, R6: every call ends without a panic, with an error of the chapter or none, whatever the numbers are.
func TestAnyNumber(t *testing.T) {
	ints := []int{math.MinInt, -100001, -1, 0, 1, 2, 20, 21, 61, math.MaxInt}
	longs := []int64{math.MinInt64, math.MinInt64 + 1, -100001, -100000, 0, 1, 100000, 1000001, math.MaxInt64}
	known := func(e api.Errno) {
		if !slices.Contains([]api.Errno{0, 2, 3, 5, 6, 14, 15, 16, 17, 21}, e) {
			t.Error(e)
		}
	}
	for _, a := range ints {
		for _, b := range ints {
			for _, n := range longs {
				for _, m := range longs {
					_, e := speed.Pipe(a, n, api.Range{Lo: m, Hi: n})
					known(e)
				}
				_, e := speed.Spring(a, b, n)
				known(e)
				for _, s := range []api.SpeedSheet{{Turns: a}, {Turns: b, Rules: []api.SpeedRule{{From: a, To: b, Most: n}, {From: b, To: a, Most: n}}}} {
					known(speed.CheckSpeeds(s, []int64{n}))
					_, e = speed.CheckWay(s, a, b, []int{b, a})
					known(e)
					known(speed.CheckCircle(s, []int{a, b}))
					_, e = speed.Circle(s)
					known(e)
					_, e = speed.Span(s, b)
					known(e)
					_, _, e = speed.Way(s, a, b)
					known(e)
					_, e = speed.Sung(s, a, n)
					known(e)
				}
			}
		}
	}
}

// README.md tells these numbers.
func TestReadme(t *testing.T) {
	pipe, _ := speed.Pipe(1, 43500, api.Range{Lo: 42000, Hi: 44000})
	spring, _ := speed.Spring(1, 3, 300)
	s := api.SpeedSheet{Turns: 3, Rules: append(pipe, spring...)}
	if x, e := speed.Span(s, 3); x != (api.Range{Lo: 15219, Hi: 16571}) || e != api.OK {
		t.Error(x, e)
	}
	if x, e := speed.Sung(s, 3, 40000); x != (api.Range{Lo: 38047, Hi: 41427}) || e != api.OK {
		t.Error(x, e)
	}
	if way, cost, e := speed.Way(s, 0, 3); !slices.Equal(way, []int{0, 2, 4}) || cost != 16571 || e != api.OK {
		t.Error(way, cost, e)
	}
}
