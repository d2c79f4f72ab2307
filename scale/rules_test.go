package scale_test

import (
	"math"
	"reflect"
	"slices"
	"testing"

	"mandrel/api"
	"mandrel/scale"
)

// most is what Most returns.
type most struct {
	steps []int64
	count int
}

// results returns what all functions return for a song, a scale, tones, two names and a number of steps.
func results(l []api.Range, steps []int64, tones []int, i, k, n int) []any {
	var all []any
	one := func(x any, e api.Errno) { all = append(all, x, e) }
	all = append(all, scale.CheckSong(l), scale.CheckScale(l, steps), scale.CheckApart(l, tones))
	one(scale.Fewest(l))
	one(scale.Apart(l))
	one(scale.Spans(l))
	one(scale.Share(l, i, k))
	s, c, e := scale.Most(l, n)
	one(most{s, c}, e)
	one(scale.Met(l, steps))
	return all
}

// R5, R10: no argument is changed, not behind its end either, and equal calls return equal results.
func TestArguments(t *testing.T) {
	for i, l := range [][]api.Range{chapter(), apart(24), of(30, 40, 20, 30, 10, 20)} {
		room := append(slices.Clone(l), slices.Repeat(of(7, 8), 9)...)
		places := []int64{130, 200, 320, 7, 7}
		names := []int{0, 1, 2, 7, 7}
		before := slices.Clone(room)
		call := func() []any { return results(room[:len(l)], places[:3], names[:3], 0, 1, 2) }
		first := call()
		for range 3 {
			if again := call(); !reflect.DeepEqual(first, again) {
				t.Error(i, first, again)
			}
		}
		if !slices.Equal(room, before) || !slices.Equal(places, []int64{130, 200, 320, 7, 7}) || !slices.Equal(names, []int{0, 1, 2, 7, 7}) {
			t.Error(i, room, places, names)
		}
	}
}

// spoil calls twice, overwrites all that the one result has room for, and checks that neither the other one nor a third one changes.
func spoil[T comparable](t *testing.T, call func() []T, by T) {
	t.Helper()
	other, l := call(), call()
	was := slices.Clone(l)
	l = l[:cap(l)]
	for i := range l {
		l[i] = by
	}
	if len(was) == 0 || !slices.Equal(was, other) || !slices.Equal(was, call()) {
		t.Error(was, other)
	}
}

// R5: a result shares no memory with an argument or another result.
func TestResults(t *testing.T) {
	l, three := chapter(), []int64{130, 200, 320}
	spoil(t, func() []int64 { s, _ := scale.Fewest(l); return s }, -1)
	spoil(t, func() []int { s, _ := scale.Apart(l); return s }, -1)
	spoil(t, func() []api.Range { s, _ := scale.Spans(l); return s }, rg(-1, -1))
	spoil(t, func() []int64 { s, _, _ := scale.Most(l, 2); return s }, -1)
	spoil(t, func() []int { s, _ := scale.Met(l, three); return s }, -1)
	if !slices.Equal(l, chapter()) || !slices.Equal(three, []int64{130, 200, 320}) {
		t.Error(l, three)
	}
}

// R3: a nil list and an empty one are the same.
func TestNil(t *testing.T) {
	for _, l := range [][]api.Range{chapter(), nil, {}} {
		a := results(l, nil, nil, 0, 1, 0)
		b := results(l, []int64{}, []int{}, 0, 1, 0)
		if !reflect.DeepEqual(a, b) {
			t.Error(a, b)
		}
	}
	if a, b := results(nil, nil, nil, 0, 0, 0), results([]api.Range{}, nil, nil, 0, 0, 0); !reflect.DeepEqual(a, b) {
		t.Error(a, b)
	}
}

// P1, R6, R2: every call ends without a panic, with an error of the chapter or none, whatever the numbers are, and with an error all else is zero.
func TestAnyNumber(t *testing.T) {
	ints := []int{math.MinInt, -1, 0, 1, 2, 23, 24, 25, math.MaxInt}
	longs := []int64{math.MinInt64, math.MinInt64 + 1, -10001, -1, 0, 1, 9999, 10000, 10001, math.MaxInt64 - 1, math.MaxInt64}
	for _, n := range longs {
		for _, m := range longs {
			for _, l := range [][]api.Range{of(n, m), of(0, 10000, n, m), of(n, n, m, m)} {
				for _, i := range ints {
					for _, k := range ints {
						checkResults(t, results(l, []int64{n, m}, []int{i, k}, i, k, i))
					}
				}
			}
		}
	}
}

// checkResults checks that all results are as they may be: an error of the chapter, and zero values in front of it.
func checkResults(t *testing.T, all []any) {
	t.Helper()
	for i, x := range all {
		e, ok := x.(api.Errno)
		if !ok {
			continue
		}
		if !slices.Contains([]api.Errno{0, 2, 3, 6, 14, 16, 19}, e) {
			t.Fatal(i, e, all)
		}
		if i > 2 && e != api.OK && !reflect.ValueOf(all[i-1]).IsZero() {
			t.Fatal(i, e, all)
		}
	}
}

// README.md tells these numbers.
func TestReadme(t *testing.T) {
	song := of(190, 215, 0, 20, 380, 410, 200, 240, 10, 30, 400, 420, 205, 401)
	if l, e := scale.Spans(song); !slices.Equal(l, of(10, 20, 200, 215, 400, 410)) || e != api.OK {
		t.Error(l, e)
	}
	if l, e := scale.Fewest(song); !slices.Equal(l, []int64{20, 215, 410}) || e != api.OK {
		t.Error(l, e)
	}
	if l, e := scale.Apart(song); !slices.Equal(l, []int{0, 1, 2}) || e != api.OK {
		t.Error(l, e)
	}
	if s, e := scale.Share(song, 0, 6); s != (api.ScaleShare{May: true}) || e != api.OK {
		t.Error(s, e)
	}
	if l, n, e := scale.Most(song, 2); len(l) != 2 || n != 5 || e != api.OK {
		t.Error(l, n, e)
	}
}
