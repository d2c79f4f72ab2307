package scale_test

import (
	"math"
	"slices"
	"testing"

	"mandrel/api"
	"mandrel/scale"
)

func rg(lo, hi int64) api.Range { return api.Range{Lo: lo, Hi: hi} }

// of returns ranges, two ends each.
func of(ends ...int64) []api.Range {
	var l []api.Range
	for i := 0; i < len(ends); i += 2 {
		l = append(l, rg(ends[i], ends[i+1]))
	}
	return l
}

// chapter returns the song of the chapter's examples.
func chapter() []api.Range { return of(100, 140, 120, 200, 300, 330, 190, 310, 320, 400) }

// apart returns so many tones, each of one cent, of which no two are on the same step.
func apart(count int) []api.Range {
	var l []api.Range
	for i := range int64(count) {
		l = append(l, rg(10*i, 10*i))
	}
	return l
}

// steps returns so many steps, from the first one on.
func steps(first int64, count int) []int64 {
	var l []int64
	for i := range int64(count) {
		l = append(l, first+i)
	}
	return l
}

// P3.1, and all functions return the error of CheckSong before all others.
func TestSong(t *testing.T) {
	for i, x := range []struct {
		l []api.Range
		e api.Errno
	}{
		{chapter(), api.OK},
		{of(0, 0), api.OK},
		{of(0, 10000), api.OK},
		{of(10000, 10000), api.OK},
		{apart(24), api.OK},
		{nil, api.ErrMany},
		{[]api.Range{}, api.ErrMany},
		{apart(25), api.ErrMany},
		{slices.Repeat(of(2, 1), 25), api.ErrMany},
		{slices.Repeat(of(2, 1), 24), api.ErrArg},
		{of(1, 0), api.ErrArg},
		{of(-1, 0), api.ErrArg},
		{of(-2, -1), api.ErrArg},
		{of(0, 10001), api.ErrArg},
		{of(10001, 10001), api.ErrArg},
		{append(chapter(), rg(10000, 9999)), api.ErrArg},
		{append(of(-1, 10001), chapter()...), api.ErrArg},
		{of(math.MinInt64, math.MaxInt64), api.ErrArg},
		{of(math.MaxInt64, math.MinInt64), api.ErrArg},
		{of(5, 5, math.MinInt64, 5), api.ErrArg},
		{of(5, 5, 5, math.MaxInt64), api.ErrArg},
	} {
		if e := scale.CheckSong(x.l); e != x.e {
			t.Error(i, e)
		}
		if x.e == api.OK {
			continue
		}
		// Each of these calls has another error, too, where it can have one.
		bad := []int64{2, 1, -1}
		_, a := scale.Fewest(x.l)
		_, b := scale.Apart(x.l)
		_, c := scale.Spans(x.l)
		_, d := scale.Share(x.l, -1, 99)
		_, _, f := scale.Most(x.l, -1)
		_, g := scale.Met(x.l, bad)
		h := scale.CheckScale(x.l, bad)
		k := scale.CheckApart(x.l, []int{-1})
		if got := []api.Errno{a, b, c, d, f, g, h, k}; !slices.Equal(got, slices.Repeat([]api.Errno{x.e}, 8)) {
			t.Error(i, got)
		}
	}
}

// P3.2: the errors of a scale in their order, and the tones that are met.
func TestScale(t *testing.T) {
	s := chapter()
	for i, x := range []struct {
		l     []api.Range
		steps []int64
		met   []int
		e, f  api.Errno
	}{
		{s, []int64{130, 200, 320}, []int{0, 1, 2, 3, 4}, api.OK, api.OK},
		{s, []int64{100, 190, 320}, []int{0, 1, 2, 3, 4}, api.OK, api.OK},
		{s, []int64{140, 310, 400}, []int{0, 1, 2, 3, 4}, api.OK, api.OK},
		{s, []int64{0, 140, 141, 310, 400, 10000}, []int{0, 1, 2, 3, 4}, api.OK, api.OK},
		{s, []int64{130, 320}, []int{0, 1, 2, 4}, api.ErrTone, api.OK},
		{s, []int64{141, 310, 400}, []int{1, 2, 3, 4}, api.ErrTone, api.OK},
		{s, []int64{99, 310, 400}, []int{2, 3, 4}, api.ErrTone, api.OK},
		{s, []int64{200, 320}, []int{1, 2, 3, 4}, api.ErrTone, api.OK},
		{s, []int64{0, 401}, nil, api.ErrTone, api.OK},
		{s, nil, nil, api.ErrTone, api.OK},
		{s, []int64{}, nil, api.ErrTone, api.OK},
		{of(0, 0, 10000, 10000), []int64{0, 10000}, []int{0, 1}, api.OK, api.OK},
		{of(0, 0, 10000, 10000), []int64{0}, []int{0}, api.ErrTone, api.OK},
		{of(0, 0, 10000, 10000), []int64{10000}, []int{1}, api.ErrTone, api.OK},
		{of(20, 30, 10, 40, 0, 5), []int64{25}, []int{0, 1}, api.ErrTone, api.OK},
		{apart(24), []int64{0, 230}, []int{0, 23}, api.ErrTone, api.OK},
		{of(7, 30), steps(7, 24), []int{0}, api.OK, api.OK},
		{of(7, 30), steps(31, 24), nil, api.ErrTone, api.OK},
		{s, steps(0, 25), nil, api.ErrMany, api.ErrMany},
		{s, slices.Repeat([]int64{-1}, 25), nil, api.ErrMany, api.ErrMany},
		{s, slices.Repeat([]int64{7}, 25), nil, api.ErrMany, api.ErrMany},
		{s, slices.Repeat([]int64{-1}, 24), nil, api.ErrRange, api.ErrRange},
		{s, []int64{130, 120, 10001}, nil, api.ErrRange, api.ErrRange},
		{s, []int64{-1, 130}, nil, api.ErrRange, api.ErrRange},
		{s, []int64{10001}, nil, api.ErrRange, api.ErrRange},
		{s, []int64{math.MinInt64}, nil, api.ErrRange, api.ErrRange},
		{s, []int64{math.MaxInt64}, nil, api.ErrRange, api.ErrRange},
		{s, []int64{130, 130, 200, 320}, nil, api.ErrRule, api.ErrRule},
		{s, []int64{130, 320, 200}, nil, api.ErrRule, api.ErrRule},
		{s, []int64{10000, 0}, nil, api.ErrRule, api.ErrRule},
	} {
		if e := scale.CheckScale(x.l, x.steps); e != x.e {
			t.Error(i, e)
		}
		if l, e := scale.Met(x.l, x.steps); !slices.Equal(l, x.met) || e != x.f {
			t.Error(i, l, e)
		}
	}
}

// P3.4: lists of tones that are apart, or not, and the errors in their order.
func TestCheckApart(t *testing.T) {
	s := chapter()
	for i, x := range []struct {
		l     []api.Range
		tones []int
		e     api.Errno
	}{
		{s, []int{0, 3, 4}, api.OK},
		{s, []int{0, 2}, api.OK},
		{s, []int{1, 2}, api.OK},
		{s, []int{1, 4}, api.OK},
		{s, []int{4}, api.OK},
		{s, nil, api.OK},
		{s, []int{}, api.OK},
		{apart(24), names(24), api.OK},
		{of(10, 20, 0, 9, 21, 30), []int{0, 1, 2}, api.OK},
		{s, []int{0, 1}, api.ErrSum},
		{s, []int{1, 3}, api.ErrSum},
		{s, []int{0, 2, 3}, api.ErrSum},
		{s, []int{0, 2, 4}, api.ErrSum},
		{s, []int{0, 1, 2, 3, 4}, api.ErrSum},
		{of(10, 20, 0, 10), []int{0, 1}, api.ErrSum},
		{of(10, 20, 20, 30), []int{0, 1}, api.ErrSum},
		{of(10, 20, 12, 13), []int{0, 1}, api.ErrSum},
		{of(10, 20, 0, 30), []int{0, 1}, api.ErrSum},
		{of(7, 7, 7, 7), []int{0, 1}, api.ErrSum},
		{of(0, 3, 10, 20, 2, 5), []int{0, 1, 2}, api.ErrSum},
		{s, []int{3, 0}, api.ErrRange},
		{s, []int{0, 0}, api.ErrRange},
		{s, []int{0, 4, 3}, api.ErrRange},
		{s, []int{0, 5}, api.ErrRange},
		{s, []int{-1, 0}, api.ErrRange},
		{s, []int{0, 1, 5}, api.ErrRange},
		{s, []int{0, 1, 1}, api.ErrRange},
		{s, []int{math.MinInt, math.MaxInt}, api.ErrRange},
		{s, slices.Repeat([]int{0}, 25), api.ErrRange},
		{apart(24), names(25), api.ErrRange},
	} {
		if e := scale.CheckApart(x.l, x.tones); e != x.e {
			t.Error(i, e)
		}
	}
}

// names returns the names of so many tones.
func names(count int) []int {
	var l []int
	for i := range count {
		l = append(l, i)
	}
	return l
}
