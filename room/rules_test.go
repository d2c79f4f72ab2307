package room_test

import (
	"math"
	"reflect"
	"slices"
	"testing"

	"mandrel/api"
	"mandrel/room"
)

// question is the arguments of all functions but the room.
type question struct {
	ranks, rule []int
	degree      int64
	weathers    []int64
	days        int
}

// results returns what all functions return for a room and the other arguments.
func results(r api.RoomSpec, q question) []any {
	all := []any{room.CheckRoom(r), room.CheckRanks(r, q.ranks), room.CheckBreak(r, q.rule, q.degree, q.weathers)}
	one := func(x any, e api.Errno) { all = append(all, x, e) }
	ranks, e := room.Ranks(r)
	one(ranks, e)
	rule, e := room.Rule(r)
	one(rule, e)
	kept, e := room.Kept(r, q.rule)
	one(kept, e)
	weathers, e := room.Break(r, q.rule, q.degree)
	one(weathers, e)
	cost, e := room.Cost(r, q.degree, q.days)
	one(cost, e)
	return all
}

// R5, R10: no argument is changed, not behind its end either, and equal calls return equal results.
func TestArguments(t *testing.T) {
	for i, r := range []api.RoomSpec{chapter(), warmer(), full(), slope(), spec(7, 9, -1, 1, "0 0, 0 0")} {
		n := size(r)
		deeds := append(slices.Clone(r.Deeds), api.RoomDeed{Add: 77, Cost: 77})
		ranks, rule := append(make([]int, n), 77, 77), append(make([]int, n), 77, 77)
		weathers := longs("0 1 0 1 77 77")
		was := []any{slices.Clone(deeds), slices.Clone(ranks), slices.Clone(rule), slices.Clone(weathers)}
		r.Deeds = deeds[:len(r.Deeds)]
		call := func() []any {
			return results(r, question{ranks[:n], rule[:n], r.Lo + int64(n)/2, weathers[:4], 5})
		}
		first := call()
		for range 5 {
			if again := call(); !reflect.DeepEqual(first, again) {
				t.Error(i, first, again)
			}
		}
		if is := []any{deeds, ranks, rule, weathers}; !reflect.DeepEqual(is, was) {
			t.Error(i, is, was)
		}
	}
}

// spoil calls twice, overwrites all that the one result has room for, and checks that neither the other one nor a third one changes.
func spoil[T comparable](t *testing.T, bad T, call func() []T) {
	t.Helper()
	other, l := call(), call()
	was := slices.Clone(l)
	l = l[:cap(l)]
	for i := range l {
		l[i] = bad
	}
	if len(was) == 0 || !slices.Equal(was, other) || !slices.Equal(was, call()) {
		t.Error(was, other)
	}
}

// R5: a result shares no memory with an argument or another result.
func TestResults(t *testing.T) {
	for _, r := range []api.RoomSpec{chapter(), slope()} {
		rule := make([]int, size(r))
		same := slices.Clone(r.Deeds)
		spoil(t, 77, func() []int { l, _ := room.Ranks(r); return l })
		spoil(t, 77, func() []int { l, _ := room.Rule(r); return l })
		spoil(t, 77, func() []int { l, _ := room.Kept(r, rule); return l })
		spoil(t, 77, func() []int64 { l, _ := room.Break(r, rule, r.Hi); return l })
		if !slices.Equal(r.Deeds, same) || slices.Max(rule) != 0 {
			t.Error(r, rule)
		}
	}
}

// R3: a nil list and an empty one are the same.
func TestNil(t *testing.T) {
	for _, r := range []api.RoomSpec{chapter(), spec(0, 0, 0, 0, "")} {
		rule := make([]int, size(r))
		a := results(r, question{nil, nil, r.Lo, nil, 1})
		c := results(r, question{nil, rule, r.Lo, nil, 1})
		if r.Deeds == nil {
			r.Deeds = []api.RoomDeed{}
		}
		if b := results(r, question{[]int{}, []int{}, r.Lo, []int64{}, 1}); !reflect.DeepEqual(a, b) {
			t.Error(a, b)
		}
		if d := results(r, question{[]int{}, rule, r.Lo, []int64{}, 1}); !reflect.DeepEqual(c, d) {
			t.Error(c, d)
		}
	}
}

// P1, R6, R2: every call ends without a panic, with an error of the chapter or none, whatever the numbers are, and with an error all else is zero.
func TestAnyNumber(t *testing.T) {
	ints := []int64{math.MinInt64, -21, -1, 0, 1, 6, 20, 60, 61, 1000000, math.MaxInt64}
	for _, n := range ints {
		for _, m := range ints {
			for _, a := range ints {
				some := []int{int(n), int(m), int(a)}
				q := question{some, some, n, []int64{m, a, n}, int(m)}
				deed := api.RoomDeed{Add: m, Cost: a}
				checkResults(t, results(api.RoomSpec{Lo: n, Hi: m, Weather: api.Range{Lo: a}, Deeds: []api.RoomDeed{{}}}, q))
				checkResults(t, results(api.RoomSpec{Hi: a, Weather: api.Range{Lo: n, Hi: m}, Deeds: []api.RoomDeed{{}}}, q))
				checkResults(t, results(api.RoomSpec{Hi: 2, Weather: api.Range{Lo: n}, Deeds: []api.RoomDeed{{}, deed}}, q))
				checkResults(t, results(spec(0, 2, -1, 0, "0 0, 1 1"), q))
				q.rule = []int{0, 1, 0}
				checkResults(t, results(spec(0, 2, -1, 0, "0 0, 1 1"), q))
				q.degree, q.days = 1, int(n)
				checkResults(t, results(spec(0, 2, -1, 0, "0 0, 1 1"), q))
			}
		}
	}
	long, weathers := make([]int, 100000), make([]int64, 100000)
	for _, r := range []api.RoomSpec{chapter(), full(), slope(), {Deeds: make([]api.RoomDeed, 100000)}} {
		checkResults(t, results(r, question{long, long, r.Lo, weathers, 100}))
		checkResults(t, results(r, question{long[:size(r)], long[:size(r)], r.Hi, weathers[:4096], 100}))
	}
}

// checkResults checks that all results are as they may be: an error of the chapter, and zero values in front of it.
func checkResults(t *testing.T, all []any) {
	t.Helper()
	for i, x := range all {
		e, ok := x.(api.Errno)
		if !ok {
			continue
		}
		if !slices.Contains([]api.Errno{0, 2, 3, 5, 6, 13, 14, 15, 16}, e) {
			t.Fatal(i, e, all)
		}
		if i > 2 && e != api.OK && !reflect.ValueOf(all[i-1]).IsZero() {
			t.Fatal(i, e, all)
		}
	}
}

// README.md tells these numbers.
func TestReadme(t *testing.T) {
	r := spec(12, 18, -3, 1, "0 0, 3 40, -2 25")
	if ranks := ranksOf(t, r); !slices.Equal(ranks, numbers("E E E E E E E")) {
		t.Error(ranks)
	}
	if rule := ruleOf(t, r); !slices.Equal(rule, numbers("1 1 1 0 0 0 2")) {
		t.Error(rule)
	}
	if cost := costOf(t, r, 15, 3); cost != 80 {
		t.Error(cost)
	}
	rule := numbers("1 1 1 0 0 0 0")
	if kept := keptOf(t, r, rule); !slices.Equal(kept, numbers("2 2 1 2 2 1 0")) {
		t.Error(kept)
	}
	if weathers, e := room.Break(r, rule, 15); !slices.Equal(weathers, longs("-1 1 1")) || e != api.OK {
		t.Error(weathers, e)
	}
	r.Deeds = r.Deeds[:2]
	if ranks := ranksOf(t, r); !slices.Equal(ranks, numbers("2 2 1 2 2 1 0")) {
		t.Error(ranks)
	}
}
