package speed_test

import (
	"math"
	"slices"
	"testing"

	"mandrel/api"
	"mandrel/speed"
)

func rule(from, to int, most int64) api.SpeedRule {
	return api.SpeedRule{From: from, To: to, Most: most}
}

func of(turns int, rules ...api.SpeedRule) api.SpeedSheet {
	return api.SpeedSheet{Turns: turns, Rules: rules}
}

// sheet returns the sheet of the chapter's examples, with more rules behind its own.
func sheet(more ...api.SpeedRule) api.SpeedSheet {
	rules := []api.SpeedRule{rule(0, 1, 16500), rule(1, 0, -16000), rule(1, 2, 0), rule(2, 1, 300), rule(2, 3, 0), rule(3, 2, 300)}
	return of(3, append(rules, more...)...)
}

// clash is a rule that contradicts those of sheet.
func clash() api.SpeedRule { return rule(0, 3, 15000) }

// wrongSheets returns sheets that are not valid, with their errors.
func wrongSheets() map[api.Errno][]api.SpeedSheet {
	return map[api.Errno][]api.SpeedSheet{
		api.ErrMany: {
			of(20, slices.Repeat([]api.SpeedRule{rule(1, 2, 0)}, 61)...),
			of(0, slices.Repeat([]api.SpeedRule{rule(1, 1, 0)}, 61)...),
			of(3, slices.Repeat([]api.SpeedRule{rule(1, 1, 0)}, 1000)...),
		},
		api.ErrArg: {
			of(0), of(-1), of(21), of(math.MaxInt), of(math.MinInt),
			of(0, rule(1, 1, 0)), of(21, rule(20, 21, 0)),
		},
		api.ErrRange: {
			of(3, rule(1, 1, 0)), of(3, rule(0, 0, 0)), of(3, api.SpeedRule{}),
			of(3, rule(-1, 2, 0)), of(3, rule(2, -1, 0)), of(3, rule(4, 1, 0)), of(3, rule(1, 4, 0)),
			of(3, rule(math.MinInt, 1, 0)), of(3, rule(1, math.MaxInt, 0)),
			of(3, rule(1, 2, 100001)), of(3, rule(1, 2, -100001)),
			of(3, rule(1, 2, math.MaxInt64)), of(3, rule(1, 2, math.MinInt64)),
			sheet(rule(1, 2, 0), rule(2, 2, 0)), sheet(rule(3, 4, 0)),
		},
	}
}

// P1.1: valid sheets up to their limits, and the errors of others in their order.
func TestCheckSheet(t *testing.T) {
	for i, s := range []api.SpeedSheet{
		sheet(), of(1), of(20), {Turns: 3, Rules: []api.SpeedRule{}},
		of(20, rule(0, 20, 100000), rule(20, 0, -100000), rule(19, 20, 100000), rule(20, 19, -100000)),
		of(20, slices.Repeat([]api.SpeedRule{rule(20, 1, -100000)}, 60)...),
		sheet(clash()),
	} {
		if e := speed.CheckSheet(s); e != api.OK {
			t.Error(i, e)
		}
	}
	for want, l := range wrongSheets() {
		for i, s := range l {
			if e := speed.CheckSheet(s); e != want {
				t.Error(want, i, e)
			}
		}
	}
}

// P1.1: the rules come first, then those of each turn.
func TestWhole(t *testing.T) {
	for i, x := range []struct {
		s    api.SpeedSheet
		want []api.SpeedRule
	}{
		{of(1), []api.SpeedRule{rule(0, 1, 100000), rule(1, 0, 0)}},
		{of(2, rule(1, 2, 5)), []api.SpeedRule{rule(1, 2, 5), rule(0, 1, 100000), rule(1, 0, 0), rule(0, 2, 100000), rule(2, 0, 0)}},
		{of(1, rule(1, 0, 0), rule(1, 0, 0)), []api.SpeedRule{rule(1, 0, 0), rule(1, 0, 0), rule(0, 1, 100000), rule(1, 0, 0)}},
	} {
		if l, e := speed.Whole(x.s); !slices.Equal(l, x.want) || e != api.OK {
			t.Error(i, l, e)
		}
	}
	full := of(20, slices.Repeat([]api.SpeedRule{rule(4, 3, 2)}, 60)...)
	if l, e := speed.Whole(full); len(l) != 100 || l[59] != rule(4, 3, 2) || l[60] != rule(0, 1, 100000) || l[99] != rule(20, 0, 0) || e != api.OK {
		t.Error(len(l), e)
	}
}

// The error of CheckSheet comes before those of all other arguments (P1.1, R1), and with zero values (R2).
func TestSheetFirst(t *testing.T) {
	bad := []int{-1}
	for want, sheets := range wrongSheets() {
		for i, s := range sheets {
			if l, e := speed.Whole(s); len(l) != 0 || e != want {
				t.Error("Whole", i, l, e)
			}
			if e := speed.CheckSpeeds(s, []int64{-1}); e != want {
				t.Error("CheckSpeeds", i, e)
			}
			if n, e := speed.CheckWay(s, -1, -1, bad); n != 0 || e != want {
				t.Error("CheckWay", i, n, e)
			}
			if e := speed.CheckCircle(s, nil); e != want {
				t.Error("CheckCircle", i, e)
			}
			if l, e := speed.Circle(s); len(l) != 0 || e != want {
				t.Error("Circle", i, l, e)
			}
			if r, e := speed.Span(s, -1); r != (api.Range{}) || e != want {
				t.Error("Span", i, r, e)
			}
			for _, high := range []bool{false, true} {
				if l, e := speed.Ends(s, high); len(l) != 0 || e != want {
					t.Error("Ends", i, l, e)
				}
			}
			if l, n, e := speed.Way(s, -1, -1); len(l) != 0 || n != 0 || e != want {
				t.Error("Way", i, l, n, e)
			}
			if r, e := speed.Sung(s, -1, -1); r != (api.Range{}) || e != want {
				t.Error("Sung", i, r, e)
			}
		}
	}
}

// P1.2: how many speeds, from what to what, and whether they keep the rules.
func TestCheckSpeeds(t *testing.T) {
	for i, x := range []struct {
		s      api.SpeedSheet
		speeds []int64
		e      api.Errno
	}{
		{sheet(), []int64{16200, 16000, 15900}, api.OK},
		{sheet(), []int64{16200, 16300, 15900}, api.ErrSpeed},
		{sheet(), []int64{16500, 16500, 16500}, api.OK},
		{sheet(), []int64{16000, 15700, 15400}, api.OK},
		{sheet(), []int64{16000, 15700, 15399}, api.ErrSpeed},
		{sheet(), []int64{15999, 15999, 15999}, api.ErrSpeed},
		{sheet(), []int64{16501, 16501, 16501}, api.ErrSpeed},
		{sheet(clash()), []int64{16200, 16000, 15900}, api.ErrSpeed},
		{of(2), []int64{0, 100000}, api.OK},
		{of(2), []int64{100000, 0}, api.OK},
		{of(1, rule(1, 0, -100000)), []int64{100000}, api.OK},
		{of(1, rule(1, 0, -100000)), []int64{99999}, api.ErrSpeed},
		{of(1, rule(0, 1, -1)), []int64{0}, api.ErrSpeed},
		{of(2, rule(2, 1, -1)), []int64{5, 6}, api.OK},
		{of(2, rule(2, 1, -1)), []int64{6, 6}, api.ErrSpeed},
		{of(20, rule(19, 20, 0)), append(make([]int64, 19), 1), api.ErrSpeed},
		{of(20, rule(20, 19, 0)), append(make([]int64, 19), 1), api.OK},
		{sheet(), []int64{16200, 16300, 100001}, api.ErrRange},
		{sheet(), []int64{-1, 16300, 15900}, api.ErrRange},
		{sheet(), []int64{16200, math.MinInt64, 15900}, api.ErrRange},
		{sheet(), []int64{16200, 16300, math.MaxInt64}, api.ErrRange},
		{sheet(), nil, api.ErrEqual},
		{sheet(), []int64{}, api.ErrEqual},
		{sheet(), []int64{16200, 16000}, api.ErrEqual},
		{sheet(), []int64{16200, -1}, api.ErrEqual},
		{sheet(), []int64{16200, 16000, 15900, 0}, api.ErrEqual},
		{sheet(), make([]int64, 5000), api.ErrEqual},
	} {
		if e := speed.CheckSpeeds(x.s, x.speeds); e != x.e {
			t.Error(i, e)
		}
	}
}

// P1.3: what a way costs, and the errors of lists that are none, in their order.
func TestCheckWay(t *testing.T) {
	around := slices.Repeat([]int{2, 3}, 31)
	for i, x := range []struct {
		from, to int
		way      []int
		cost     int64
		e        api.Errno
	}{
		{3, 1, []int{5, 3}, 600, api.OK},
		{0, 0, nil, 0, api.OK},
		{0, 0, []int{}, 0, api.OK},
		{3, 3, nil, 0, api.OK},
		{0, 3, []int{0, 2, 4}, 16500, api.OK},
		{0, 3, []int{10}, 100000, api.OK},
		{3, 0, []int{11}, 0, api.OK},
		{3, 0, []int{5, 3, 1}, -15400, api.OK},
		{0, 0, []int{0, 1, 6, 7}, 100500, api.OK},
		{1, 1, around[:60], 9000, api.OK},
		{1, 1, around[:62], 0, api.ErrMany},
		{1, 2, around[:61], 0, api.ErrMany},
		{3, 1, slices.Repeat([]int{-1}, 61), 0, api.ErrMany},
		{1, 2, nil, 0, api.ErrRule},
		{3, 1, []int{3, 5}, 0, api.ErrRule},
		{3, 2, []int{5, 3}, 0, api.ErrRule},
		{2, 1, []int{5, 3}, 0, api.ErrRule},
		{1, 3, []int{2, 3, 4}, 0, api.ErrRule},
		{0, 1, []int{0, 0}, 0, api.ErrRule},
		{3, 1, []int{5, 12}, 0, api.ErrRange},
		{3, 1, []int{-1, 3}, 0, api.ErrRange},
		{3, 1, []int{0, 0, 12}, 0, api.ErrRange},
		{3, 1, []int{math.MaxInt}, 0, api.ErrRange},
		{3, 1, []int{math.MinInt}, 0, api.ErrRange},
		{4, 1, []int{5, 3}, 0, api.ErrArg},
		{-1, 1, []int{5, 3}, 0, api.ErrArg},
		{3, 4, []int{5, 3}, 0, api.ErrArg},
		{3, -1, []int{-1}, 0, api.ErrArg},
		{4, 4, nil, 0, api.ErrArg},
		{math.MaxInt, math.MinInt, make([]int, 61), 0, api.ErrArg},
	} {
		if n, e := speed.CheckWay(sheet(), x.from, x.to, x.way); n != x.cost || e != x.e {
			t.Error(i, n, e)
		}
	}
}

// P1.3: circles, from whichever of their turns on, and lists that are none.
func TestCheckCircle(t *testing.T) {
	bad := sheet(clash())
	for i, x := range []struct {
		s      api.SpeedSheet
		circle []int
		e      api.Errno
	}{
		{bad, []int{6, 5, 3, 1}, api.OK},
		{bad, []int{5, 3, 1, 6}, api.OK},
		{bad, []int{3, 1, 6, 5}, api.OK},
		{bad, []int{6, 5, 3, 1, 6, 5, 3, 1}, api.OK},
		{bad, slices.Repeat([]int{6, 5, 3, 1}, 15), api.OK},
		{bad, slices.Repeat([]int{6, 5, 3, 1}, 16), api.ErrMany},
		{of(1, rule(0, 1, -1)), []int{0, 2}, api.OK},
		{of(2, rule(1, 2, -1), rule(2, 1, 0)), []int{0, 1}, api.OK},
		{of(2, rule(1, 2, -1), rule(2, 1, 1)), []int{0, 1}, api.ErrSum},
		{bad, []int{2, 3}, api.ErrSum},
		{sheet(rule(0, 3, 15400)), []int{6, 5, 3, 1}, api.ErrSum},
		{sheet(rule(0, 3, 15399)), []int{6, 5, 3, 1}, api.OK},
		{bad, []int{6, 5, 3}, api.ErrRule},
		{bad, []int{6, 3, 5, 1}, api.ErrRule},
		{bad, []int{1}, api.ErrRule},
		{bad, []int{6, 5, 3, 1, 0}, api.ErrRule},
		{bad, []int{13}, api.ErrRange},
		{bad, []int{6, 3, 5, -1}, api.ErrRange},
		{bad, nil, api.ErrMany},
		{bad, []int{}, api.ErrMany},
		{bad, slices.Repeat([]int{-1}, 61), api.ErrMany},
	} {
		if e := speed.CheckCircle(x.s, x.circle); e != x.e {
			t.Error(i, e)
		}
	}
}
