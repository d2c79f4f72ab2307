package speed_test

import (
	"math"
	"slices"
	"testing"

	"mandrel/api"
	"mandrel/speed"
)

// P1.7: the rules of a pipe, and the errors in their order.
func TestPipe(t *testing.T) {
	for i, x := range []struct {
		turn         int
		pipe, lo, hi int64
		least, great int64
		e            api.Errno
	}{
		{1, 43500, 42000, 44000, 15819, 16571, api.OK},
		{20, 43500, 43500, 43500, 16000, 16000, api.OK},
		{2, 44000, 22000, 88000, 8000, 32000, api.OK},
		{2, 1000000, 1, 1000000, 16000, 100000, api.OK},
		{2, 1000000, 160000, 160000, 100000, 100000, api.OK},
		{2, 1000000, 159999, 160000, 100000, 100000, api.OK},
		{2, 1, 16000, 16000, 1, 1, api.OK},
		{2, 1, 8000, 1000000, 1, 2, api.OK},
		{2, 7, 16000, 16000, 7, 7, api.OK},
		{2, 7, 15999, 15999, 0, 0, api.ErrSpeed},
		{2, 1, 16001, 1000000, 0, 0, api.ErrSpeed},
		{2, 1, 1000000, 1000000, 0, 0, api.ErrSpeed},
		{2, 1000000, 1, 159999, 0, 0, api.ErrSpeed},
		{2, 1000000, 1, 100, 0, 0, api.ErrSpeed},
		{0, 43500, 42000, 44000, 0, 0, api.ErrArg},
		{21, 43500, 42000, 44000, 0, 0, api.ErrArg},
		{math.MinInt, 0, 1, 0, 0, 0, api.ErrArg},
		{math.MaxInt, 43500, 42000, 44000, 0, 0, api.ErrArg},
		{1, 0, 1, 1, 0, 0, api.ErrRange},
		{1, -43500, 42000, 44000, 0, 0, api.ErrRange},
		{1, 1000001, 1, 1, 0, 0, api.ErrRange},
		{1, math.MaxInt64, 1, 1, 0, 0, api.ErrRange},
		{1, 1, 0, 1, 0, 0, api.ErrRange},
		{1, 1, 0, 0, 0, 0, api.ErrRange},
		{1, 1, 2, 1, 0, 0, api.ErrRange},
		{1, 1, 2, 1000001, 0, 0, api.ErrRange},
		{1, 1, math.MinInt64, math.MaxInt64, 0, 0, api.ErrRange},
		{1, 43500, 44000, 42000, 0, 0, api.ErrRange},
	} {
		var want []api.SpeedRule
		if x.e == api.OK {
			want = []api.SpeedRule{rule(0, x.turn, x.great), rule(x.turn, 0, -x.least)}
		}
		if l, e := speed.Pipe(x.turn, x.pipe, api.Range{Lo: x.lo, Hi: x.hi}); !slices.Equal(l, want) || e != x.e {
			t.Error(i, l, e)
		}
	}
}

// P1.7: the rules of a spring, and the errors in their order.
func TestSpring(t *testing.T) {
	for i, x := range []struct {
		first, last int
		drop        int64
		want        []api.SpeedRule
		e           api.Errno
	}{
		{1, 3, 300, sheet().Rules[2:], api.OK},
		{19, 20, 0, []api.SpeedRule{rule(19, 20, 0), rule(20, 19, 0)}, api.OK},
		{4, 5, 100000, []api.SpeedRule{rule(4, 5, 0), rule(5, 4, 100000)}, api.OK},
		{3, 3, 1, nil, api.ErrArg},
		{4, 3, 1, nil, api.ErrArg},
		{0, 3, 1, nil, api.ErrArg},
		{-1, 3, 1, nil, api.ErrArg},
		{1, 21, 1, nil, api.ErrArg},
		{20, 21, -1, nil, api.ErrArg},
		{math.MinInt, math.MaxInt, 1, nil, api.ErrArg},
		{1, 2, -1, nil, api.ErrRange},
		{1, 2, 100001, nil, api.ErrRange},
		{1, 2, math.MinInt64, nil, api.ErrRange},
	} {
		if l, e := speed.Spring(x.first, x.last, x.drop); !slices.Equal(l, x.want) || e != x.e {
			t.Error(i, l, e)
		}
	}
	l, e := speed.Spring(1, 20, 9)
	if len(l) != 38 || e != api.OK || speed.CheckSheet(of(20, l...)) != api.OK || l[36] != rule(19, 20, 0) || l[37] != rule(20, 19, 9) {
		t.Error(l, e)
	}
}

// P1.8: what was sung, of all true speeds, and the errors in their order.
func TestSung(t *testing.T) {
	for i, x := range []struct {
		s      api.SpeedSheet
		turn   int
		heard  int64
		lo, hi int64
		e      api.Errno
	}{
		{sheet(), 3, 40000, 38500, 41250, api.OK},
		{sheet(), 1, 40000, 40000, 41250, api.OK},
		{sheet(), 3, 1, 0, 1, api.OK},
		{sheet(), 3, 12345, 11882, 12730, api.OK},
		{of(1, rule(0, 1, 15999)), 1, 1, 0, 0, api.OK},
		{of(1), 1, 1000000, 0, 6250000, api.OK},
		{of(20, rule(20, 0, -100000)), 20, 1000000, 6250000, 6250000, api.OK},
		{sheet(), 0, 1, 0, 0, api.ErrRange},
		{sheet(), 4, 1, 0, 0, api.ErrRange},
		{sheet(), math.MinInt, 1, 0, 0, api.ErrRange},
		{sheet(), 1, 0, 0, 0, api.ErrRange},
		{sheet(), 1, -1, 0, 0, api.ErrRange},
		{sheet(), 1, 1000001, 0, 0, api.ErrRange},
		{sheet(), 1, math.MaxInt64, 0, 0, api.ErrRange},
		{sheet(clash()), 1, 1, 0, 0, api.ErrClash},
		{sheet(clash()), 4, 1, 0, 0, api.ErrRange},
		{sheet(clash()), 1, 0, 0, 0, api.ErrRange},
		{sheet(clash()), 1, 1000001, 0, 0, api.ErrRange},
	} {
		if r, e := speed.Sung(x.s, x.turn, x.heard); r != (api.Range{Lo: x.lo, Hi: x.hi}) || e != x.e {
			t.Error(i, r, e)
		}
	}
}
