package name_test

import (
	"math"
	"reflect"
	"slices"
	"testing"

	"mandrel/api"
	"mandrel/name"
)

// costs is what Cut and Least return.
type costs struct {
	list []int
	cost int64
}

// results returns what all functions return for a list, a drop, a list of names and a flow.
func results(l api.NameList, drop, names []int, f api.NameFlow) []any {
	all := []any{name.CheckList(l), name.CheckChain(l, drop, names)}
	one := func(x any, e api.Errno) { all = append(all, x, e) }
	two := func(list []int, cost int64, e api.Errno) { one(costs{list, cost}, e) }
	groups, e := name.Groups(l, drop)
	one(groups, e)
	chain, e := name.Chain(l, drop)
	one(chain, e)
	two(name.Cut(l, names))
	two(name.Least(l))
	flow, e := name.Flow(l)
	one(flow, e)
	great, e := name.CheckFlow(l, f)
	one(great, e)
	sides, e := name.Sides(l)
	one(sides, e)
	return all
}

// R5, R10: no argument is changed, not behind its end either, and equal calls return equal results.
func TestArguments(t *testing.T) {
	for i, l := range []api.NameList{chapter(), full(), list(6, "0 2 1, 2 4 1, 1 3 1, 3 5 1, 2 3 1, 0 1 1, 5 4 1", "0 1", "4 5")} {
		room := append(slices.Clone(l.Links), links("7 7 7, 7 7 7, 7 7 7")...)
		left, right := append(slices.Clone(l.Left), 7, 7), append(slices.Clone(l.Right), 7, 7)
		drop, names := []int{1, 4, 5, 7, 7}, []int{0, 1, 2, 7, 7}
		f := make(api.NameFlow, len(l.Links)+2)
		f[len(l.Links)] = 7
		was := []any{slices.Clone(room), slices.Clone(left), slices.Clone(right), slices.Clone(drop), slices.Clone(names), slices.Clone(f)}
		l.Links, l.Left, l.Right = room[:len(l.Links)], left[:len(l.Left)], right[:len(l.Right)]
		call := func() []any { return results(l, drop[:3], names[:3], f[:len(l.Links)]) }
		first := call()
		for range 3 {
			if again := call(); !reflect.DeepEqual(first, again) {
				t.Error(i, first, again)
			}
		}
		if is := []any{room, left, right, drop, names, f}; !reflect.DeepEqual(is, was) {
			t.Error(i, is, was)
		}
	}
}

// spoil calls twice, overwrites all that the one result has room for, and checks that neither the other one nor a third one changes.
func spoil[N int | int64](t *testing.T, call func() []N) {
	t.Helper()
	other, l := call(), call()
	was := slices.Clone(l)
	l = l[:cap(l)]
	for i := range l {
		l[i] = 77
	}
	if len(was) == 0 || !slices.Equal(was, other) || !slices.Equal(was, call()) {
		t.Error(was, other)
	}
}

// R5: a result shares no memory with an argument or another result.
func TestResults(t *testing.T) {
	l, same := chapter(), chapter()
	spoil(t, func() []int { c, _ := name.Chain(l, []int{0}); return c })
	spoil(t, func() []int { c, _, _ := name.Cut(l, []int{0, 1}); return c })
	spoil(t, func() []int { c, _, _ := name.Least(l); return c })
	spoil(t, func() []int { c, _ := name.Sides(l); return c })
	spoil(t, func() []int64 { f, _ := name.Flow(l); return f })
	spoil(t, func() []int { g, _ := name.Groups(l, []int{0, 2}); return g[1] })
	if !reflect.DeepEqual(l, same) {
		t.Error(l)
	}
	groups, e := name.Groups(l, []int{1, 3, 5})
	for i, group := range groups {
		was := slices.Clone(groups)
		for k := range was {
			was[k] = slices.Clone(groups[k])
		}
		for k := range group[:cap(group)] {
			group[:cap(group)][k] = 77
		}
		for k := range groups {
			if k != i && !slices.Equal(groups[k], was[k]) {
				t.Error(i, k, groups[k], was[k])
			}
		}
	}
	if len(groups) != 3 || e != api.OK {
		t.Error(groups, e)
	}
}

// R3: a nil list and an empty one are the same.
func TestNil(t *testing.T) {
	for _, l := range []api.NameList{chapter(), list(3, "", "0", "2")} {
		a := results(l, nil, nil, nil)
		if l.Links == nil {
			l.Links = []api.NameLink{}
		}
		if b := results(l, []int{}, []int{}, api.NameFlow{}); !reflect.DeepEqual(a, b) {
			t.Error(a, b)
		}
	}
	if e := name.CheckList(api.NameList{Names: 2, Left: []int{}, Right: []int{1}}); e != api.ErrMany {
		t.Error(e)
	}
}

// P1, R6, R2: every call ends without a panic, with an error of the chapter or none, whatever the numbers are, and with an error all else is zero.
func TestAnyNumber(t *testing.T) {
	ints := []int{math.MinInt, -1, 0, 1, 2, 40, 41, math.MaxInt}
	flows := []int64{math.MinInt64, -1, 0, 1, math.MaxInt64}
	for _, n := range ints {
		for _, m := range ints {
			for _, a := range ints {
				some := []int{n, m}
				l := list(3, "0 1 1, 1 2 1", "0", "2")
				checkResults(t, results(l, some, []int{n, m, a}, api.NameFlow{flows[0], int64(a)}))
				checkResults(t, results(l, nil, some, api.NameFlow{int64(n), int64(m)}))
				l.Names = a
				checkResults(t, results(l, some, some, nil))
				l.Links[1] = api.NameLink{One: n, Two: m, Trust: int64(a)}
				checkResults(t, results(l, some, some, nil))
				l.Names = 3
				checkResults(t, results(l, some, some, flows))
				checkResults(t, results(api.NameList{Names: 40, Left: some, Right: []int{a}}, some, some, nil))
				checkResults(t, results(api.NameList{Names: a, Left: []int{n}, Right: []int{m}}, some, some, nil))
			}
		}
	}
	long := make([]int, 100000)
	checkResults(t, results(chapter(), long, long, make(api.NameFlow, 100000)))
	checkResults(t, results(chapter(), nil, long, nil))
	checkResults(t, results(api.NameList{Names: 2, Links: make([]api.NameLink, 100000), Left: []int{0}, Right: []int{1}}, nil, nil, nil))
	checkResults(t, results(api.NameList{Names: 2, Left: long, Right: []int{1}}, nil, nil, nil))
	checkResults(t, results(api.NameList{Names: 2, Left: []int{1}, Right: long}, nil, nil, nil))
}

// checkResults checks that all results are as they may be: an error of the chapter, and zero values in front of it.
func checkResults(t *testing.T, all []any) {
	t.Helper()
	for i, x := range all {
		e, ok := x.(api.Errno)
		if !ok {
			continue
		}
		if !slices.Contains([]api.Errno{0, 2, 3, 5, 6, 14, 15, 16, 21}, e) {
			t.Fatal(i, e, all)
		}
		if i > 2 && e != api.OK && !reflect.ValueOf(all[i-1]).IsZero() {
			t.Fatal(i, e, all)
		}
	}
}

// README.md tells these numbers.
func TestReadme(t *testing.T) {
	l := list(6, "0 1 4, 1 2 3, 0 2 1, 2 3 2, 3 5 2, 1 5 1, 4 2 2", "0", "5")
	checkFound(t, l, "0 1 2 4", 3, "1 1 1 0 1 -1")
	checkCut(t, l, "0 1 2 4", "3 5", 3)
	if great, e := name.CheckFlow(l, flow("3 2 0 2 2 1 0")); great != 3 || e != api.OK {
		t.Error(great, e)
	}
	checkGroups(t, l, numbers("3 5"), "0 1 2 4, 3 5")
	if chain, e := name.Chain(l, numbers("3")); !slices.Equal(chain, numbers("0 1 5")) || e != api.OK {
		t.Error(chain, e)
	}
}
