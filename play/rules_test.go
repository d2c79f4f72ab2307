package play_test

import (
	"math"
	"reflect"
	"slices"
	"testing"

	"mandrel/api"
	"mandrel/play"
)

// found is what Saves and Best return.
type found struct {
	passages []int
	plan     []api.PlayStretch
	worth    int64
}

// results returns what all functions return for a cylinder, a plan, labels and a worth.
func results(c api.PlayCylinder, plan []api.PlayStretch, labels []int64, worth int64) []any {
	all := []any{play.CheckCylinder(c), play.CheckPlan(c, plan)}
	one := func(x any, e api.Errno) { all = append(all, x, e) }
	saved, n, e := play.Saves(c, plan)
	one(found{saved, nil, n}, e)
	best, n, e := play.Best(c)
	one(found{nil, best, n}, e)
	worths, e := play.Worths(c)
	one(worths, e)
	own, e := play.Labels(c)
	one(own, e)
	bound, e := play.CheckLabels(c, labels)
	one(bound, e)
	kinds, e := play.Kinds(c)
	one(kinds, e)
	plays, e := play.Fewest(c, worth)
	one(plays, e)
	return all
}

// R5, R10: no argument is changed, not behind its end either, and equal calls return equal results.
func TestArguments(t *testing.T) {
	for i, c := range []api.PlayCylinder{chapter(), full(), worn(), cylinder(6, 3, 3, "2", "0 1 4, 1 2 4, 2 3 4, 3 4 4, 4 5 4")} {
		fragile, room := append(slices.Clone(c.Fragile), 7, 7), append(slices.Clone(c.Passages), passages("7 7 7, 7 7 7")...)
		plan := stretches("0 1, 3 4, 7 7, 7 7")
		labels := make([]int64, (c.Turns+1)*(c.Plays+1)+2)
		for i := range labels {
			labels[i] = int64(i * 10000)
		}
		was := []any{slices.Clone(fragile), slices.Clone(room), slices.Clone(plan), slices.Clone(labels)}
		c.Fragile, c.Passages = fragile[:len(c.Fragile)], room[:len(c.Passages)]
		call := func() []any { return results(c, plan[:2], labels[:len(labels)-2], 9) }
		first := call()
		for range 3 {
			if again := call(); !reflect.DeepEqual(first, again) {
				t.Error(i, first, again)
			}
		}
		if is := []any{fragile, room, plan, labels}; !reflect.DeepEqual(is, was) {
			t.Error(i, is, was)
		}
	}
}

// spoil calls twice, overwrites all that the one result has room for, and checks that neither the other one nor a third one changes.
func spoil[T comparable](t *testing.T, bad T, call func() []T) {
	t.Helper()
	other, l := call(), call()
	was := slices.Clone(l)
	l = l[:cap(l)]
	for i := range l {
		l[i] = bad
	}
	if len(was) == 0 || !slices.Equal(was, other) || !slices.Equal(was, call()) {
		t.Error(was, other)
	}
}

// R5: a result shares no memory with an argument or another result.
func TestResults(t *testing.T) {
	c, same := chapter(), chapter()
	spoil(t, 77, func() []int { l, _, _ := play.Saves(c, stretches("0 3, 6 9")); return l })
	spoil(t, api.PlayStretch{From: 77, To: 77}, func() []api.PlayStretch { l, _, _ := play.Best(c); return l })
	spoil(t, 77, func() []int64 { l, _ := play.Worths(c); return l })
	spoil(t, 77, func() []int64 { l, _ := play.Labels(c); return l })
	spoil(t, 77, func() []int { l, _ := play.Kinds(c); return l })
	if !reflect.DeepEqual(c, same) {
		t.Error(c)
	}
}

// R3: a nil list and an empty one are the same.
func TestNil(t *testing.T) {
	for _, c := range []api.PlayCylinder{chapter(), cylinder(3, 2, 1, "", ""), cylinder(3, 2, 0, "", "")} {
		a := results(c, nil, nil, 0)
		if c.Fragile == nil {
			c.Fragile = []int{}
		}
		if c.Passages == nil {
			c.Passages = []api.PlayPassage{}
		}
		if b := results(c, []api.PlayStretch{}, []int64{}, 0); !reflect.DeepEqual(a, b) {
			t.Error(a, b)
		}
	}
}

// P1, R6, R2: every call ends without a panic, with an error of the chapter or none, whatever the numbers are, and with an error all else is zero.
func TestAnyNumber(t *testing.T) {
	ints := []int{math.MinInt, -1, 0, 1, 2, 6, 7, 30, 31, math.MaxInt}
	for _, n := range ints {
		for _, m := range ints {
			for _, a := range ints {
				plan := []api.PlayStretch{{From: n, To: m}, {From: a, To: n}}
				some := []int64{int64(n), int64(m), int64(a)}
				checkResults(t, results(api.PlayCylinder{Turns: n, Long: m, Plays: a, Fragile: []int{1}}, plan, some, int64(a)))
				c := chapter()
				checkResults(t, results(c, plan, make([]int64, 33), int64(n)))
				checkResults(t, results(cylinder(2, 1, 0, "", "0 0 1"), plan[:1], some, int64(n)))
				c.Fragile = []int{n, m, a}
				checkResults(t, results(c, plan, some, int64(m)))
				c.Fragile = nil
				c.Passages[3] = api.PlayPassage{From: n, To: m, Worth: int64(a)}
				checkResults(t, results(c, plan, some, int64(m)))
			}
		}
	}
	plan, labels := make([]api.PlayStretch, 100000), make([]int64, 100000)
	checkResults(t, results(chapter(), plan, labels, 0))
	checkResults(t, results(full(), plan, labels, 0))
	checkResults(t, results(api.PlayCylinder{Turns: 1, Long: 1, Fragile: make([]int, 100000)}, plan, labels, 0))
	checkResults(t, results(api.PlayCylinder{Turns: 1, Long: 1, Passages: make([]api.PlayPassage, 100000)}, plan, labels, 0))
}

// checkResults checks that all results are as they may be: an error of the chapter, and zero values in front of it.
func checkResults(t *testing.T, all []any) {
	t.Helper()
	for i, x := range all {
		e, ok := x.(api.Errno)
		if !ok {
			continue
		}
		if !slices.Contains([]api.Errno{0, 2, 3, 6, 13, 14, 15, 16, 22}, e) {
			t.Fatal(i, e, all)
		}
		if i > 1 && e != api.OK && !reflect.ValueOf(all[i-1]).IsZero() {
			t.Fatal(i, e, all)
		}
	}
}

// README.md tells these numbers.
func TestReadme(t *testing.T) {
	c := cylinder(12, 5, 2, "6", "0 2 8, 2 4 5, 4 5 4, 7 8 6, 8 11 7")
	if plan, worth, e := play.Best(c); !slices.Equal(plan, stretches("0 4, 7 11")) || worth != 26 || e != api.OK {
		t.Error(plan, worth, e)
	}
	if saved, worth, e := play.Saves(c, stretches("2 5, 7 11")); !slices.Equal(saved, numbers("1 2 3 4")) || worth != 22 || e != api.OK {
		t.Error(saved, worth, e)
	}
	if worths := worthsOf(t, c); !slices.Equal(worths, longs("0 13 26")) {
		t.Error(worths)
	}
	if kinds := kindsOf(t, c); !slices.Equal(kinds, numbers("2 2 0 2 2")) {
		t.Error(kinds)
	}
	checkFewest(t, c, 14, 2, api.OK)
}
