package speed_test

import (
	"math"
	"slices"
	"testing"

	"mandrel/api"
	"mandrel/speed"
)

// chain returns a sheet in which each turn is slower than the one before it, from first to last, by so much.
func chain(turns int, slower int64) api.SpeedSheet {
	s := of(turns)
	for t := 1; t < turns; t++ {
		s.Rules = append(s.Rules, rule(t, t+1, -slower))
	}
	return s
}

// P1.4: a circle just if no speeds are true.
func TestCircle(t *testing.T) {
	for i, x := range []struct {
		s api.SpeedSheet
		e api.Errno
	}{
		{sheet(), api.ErrNone},
		{of(1), api.ErrNone},
		{of(20), api.ErrNone},
		{sheet(clash()), api.OK},
		{sheet(rule(0, 3, 15400)), api.ErrNone},
		{sheet(rule(0, 3, 15399)), api.OK},
		{of(2, rule(1, 2, -1), rule(2, 1, 0)), api.OK},
		{of(2, rule(1, 2, -1), rule(2, 1, 1)), api.ErrNone},
		{of(20, rule(19, 20, -1), rule(20, 19, 0)), api.OK},
		{of(1, rule(0, 1, -1)), api.OK},
		{of(1, rule(1, 0, -100000)), api.ErrNone},
		{of(1, rule(1, 0, -100000), rule(0, 1, 99999)), api.OK},
		{of(3, rule(1, 2, -50000), rule(2, 3, -50000)), api.ErrNone},
		{of(3, rule(1, 2, -50000), rule(2, 3, -50001)), api.OK},
		{chain(20, 5263), api.ErrNone},
		{chain(20, 5264), api.OK},
		{chain(20, 100000), api.OK},
		{of(5, rule(4, 5, -1), rule(3, 4, 0), rule(5, 3, 0), rule(5, 2, 7), rule(2, 1, 7)), api.OK},
		{of(20, slices.Repeat([]api.SpeedRule{rule(7, 9, -100000), rule(9, 7, -100000)}, 30)...), api.OK},
	} {
		c, e := speed.Circle(x.s)
		if e != x.e || e != api.OK && len(c) != 0 {
			t.Error(i, c, e)
		}
		if f := speed.CheckCircle(x.s, c); e == api.OK && f != api.OK {
			t.Error(i, c, f)
		}
	}
}

// P1.5: the least and the greatest speed of a turn, of all true speeds.
func TestSpan(t *testing.T) {
	for i, x := range []struct {
		s      api.SpeedSheet
		turn   int
		lo, hi int64
		e      api.Errno
	}{
		{sheet(), 1, 16000, 16500, api.OK},
		{sheet(), 2, 15700, 16500, api.OK},
		{sheet(), 3, 15400, 16500, api.OK},
		{sheet(rule(0, 3, 15500)), 1, 16000, 16100, api.OK},
		{sheet(rule(0, 3, 15400)), 1, 16000, 16000, api.OK},
		{of(1), 1, 0, 100000, api.OK},
		{of(20), 20, 0, 100000, api.OK},
		{of(2, rule(1, 2, -40000)), 1, 40000, 100000, api.OK},
		{of(2, rule(1, 2, -40000)), 2, 0, 60000, api.OK},
		{of(2, rule(1, 2, 7), rule(1, 2, 5), rule(1, 2, 9), rule(0, 1, 3)), 2, 0, 8, api.OK},
		{chain(20, 5263), 1, 99997, 100000, api.OK},
		{chain(20, 5263), 20, 0, 3, api.OK},
		{sheet(), 0, 0, 0, api.ErrRange},
		{sheet(), 4, 0, 0, api.ErrRange},
		{sheet(), -1, 0, 0, api.ErrRange},
		{sheet(), math.MaxInt, 0, 0, api.ErrRange},
		{sheet(clash()), 1, 0, 0, api.ErrClash},
		{sheet(clash()), 0, 0, 0, api.ErrRange},
		{sheet(clash()), 4, 0, 0, api.ErrRange},
	} {
		if r, e := speed.Span(x.s, x.turn); r != (api.Range{Lo: x.lo, Hi: x.hi}) || e != x.e {
			t.Error(i, r, e)
		}
	}
}

// P1.5: the least and the greatest speeds of all turns.
func TestEnds(t *testing.T) {
	for i, x := range []struct {
		s         api.SpeedSheet
		low, high []int64
		e         api.Errno
	}{
		{sheet(), []int64{16000, 15700, 15400}, []int64{16500, 16500, 16500}, api.OK},
		{of(2, rule(1, 2, -40000)), []int64{40000, 0}, []int64{100000, 60000}, api.OK},
		{of(20), make([]int64, 20), slices.Repeat([]int64{100000}, 20), api.OK},
		{of(1, rule(1, 0, -7), rule(0, 1, 7)), []int64{7}, []int64{7}, api.OK},
		{sheet(clash()), nil, nil, api.ErrClash},
		{chain(20, 5264), nil, nil, api.ErrClash},
	} {
		low, e := speed.Ends(x.s, false)
		high, f := speed.Ends(x.s, true)
		if !slices.Equal(low, x.low) || !slices.Equal(high, x.high) || e != x.e || f != x.e {
			t.Error(i, low, high, e, f)
		}
	}
}

// P1.6: a cheapest way from one turn to another one, and what it costs.
func TestWay(t *testing.T) {
	for i, x := range []struct {
		s        api.SpeedSheet
		from, to int
		cost     int64
		e        api.Errno
	}{
		{sheet(), 3, 1, 600, api.OK},
		{sheet(), 1, 3, 0, api.OK},
		{sheet(), 0, 3, 16500, api.OK},
		{sheet(), 3, 0, -15400, api.OK},
		{sheet(rule(3, 1, 500)), 3, 1, 500, api.OK},
		{sheet(rule(3, 1, 700)), 3, 1, 600, api.OK},
		{sheet(), 0, 0, 0, api.OK},
		{sheet(), 2, 2, 0, api.OK},
		{of(2), 1, 2, 100000, api.OK},
		{of(2), 0, 1, 100000, api.OK},
		{of(2), 1, 0, 0, api.OK},
		{of(2, rule(1, 2, 0), rule(2, 1, 0)), 2, 2, 0, api.OK},
		{chain(20, 5263), 1, 20, -99997, api.OK},
		{chain(20, 5263), 20, 1, 100000, api.OK},
		{sheet(), 4, 1, 0, api.ErrArg},
		{sheet(), 1, 4, 0, api.ErrArg},
		{sheet(), -1, 1, 0, api.ErrArg},
		{sheet(), 1, -1, 0, api.ErrArg},
		{sheet(), math.MaxInt, math.MinInt, 0, api.ErrArg},
		{sheet(clash()), 3, 1, 0, api.ErrClash},
		{sheet(clash()), 3, 3, 0, api.ErrClash},
		{sheet(clash()), 4, 1, 0, api.ErrArg},
	} {
		way, cost, e := speed.Way(x.s, x.from, x.to)
		if cost != x.cost || e != x.e || e != api.OK && len(way) != 0 {
			t.Error(i, way, cost, e)
		}
		if n, f := speed.CheckWay(x.s, x.from, x.to, way); e == api.OK && (n != cost || f != api.OK) {
			t.Error(i, way, n, f)
		}
	}
	if way, cost, e := speed.Way(sheet(), 3, 1); !slices.Equal(way, []int{5, 3}) || cost != 600 || e != api.OK {
		t.Error(way, cost, e)
	}
}
