package list_test

import (
	"math"
	"reflect"
	"slices"
	"testing"

	"mandrel/api"
	"mandrel/list"
)

// question is what Ask returns.
type question struct{ name, rest int }

// results returns what all functions return for a sheet, a joining and a cover.
func results(s api.ListSheet, joining []int, c api.ListCover) []any {
	var all []any
	one := func(x any, e api.Errno) { all = append(all, x, e) }
	all = append(all, list.CheckSheet(s), list.CheckJoining(s, joining))
	one(list.Greatest(s))
	one(list.CheckCover(s, c))
	one(list.Cover(s))
	one(list.Kinds(s))
	one(list.Items(s, false))
	one(list.Items(s, true))
	n, r, e := list.Ask(s)
	one(question{n, r}, e)
	return all
}

// R5, R10: no argument is changed, not behind its end either, and equal calls return equal results.
func TestArguments(t *testing.T) {
	for i, s := range []api.ListSheet{
		chapter(), doubtful(), sheet(3, 3, "00 01 10 21 22", 1),
		{Left: 12, Right: 12, Links: grid(10, 4), Known: []int{5}},
	} {
		room := append(slices.Clone(s.Links), links("BB BA B9")...)
		known := append(slices.Clone(s.Known), 7, 7)
		names, lefts, rights := []int{1, 2, 4, 7, 7}, []int{0, 1, 2, 7, 7}, []int{0, 1, 7, 7}
		wasRoom, wasKnown := slices.Clone(room), slices.Clone(known)
		s.Links, s.Known = room[:len(s.Links)], known[:len(s.Known)]
		call := func() []any { return results(s, names[:3], api.ListCover{Left: lefts[:3], Right: rights[:2]}) }
		first := call()
		for range 3 {
			if again := call(); !reflect.DeepEqual(first, again) {
				t.Error(i, first, again)
			}
		}
		if !slices.Equal(room, wasRoom) || !slices.Equal(known, wasKnown) {
			t.Error(i, room, known)
		}
		if !slices.Equal(names, []int{1, 2, 4, 7, 7}) || !slices.Equal(lefts, []int{0, 1, 2, 7, 7}) || !slices.Equal(rights, []int{0, 1, 7, 7}) {
			t.Error(i, names, lefts, rights)
		}
	}
}

// spoil calls twice, overwrites all that the one result has room for, and checks that neither the other one nor a third one changes.
func spoil(t *testing.T, call func() []int) {
	t.Helper()
	other, l := call(), call()
	was := slices.Clone(l)
	l = l[:cap(l)]
	for i := range l {
		l[i] = -7
	}
	if len(was) == 0 || !slices.Equal(was, other) || !slices.Equal(was, call()) {
		t.Error(was, other)
	}
}

// R5: a result shares no memory with an argument or another result.
func TestResults(t *testing.T) {
	s := sheet(5, 5, "00 10 20 31 32 33 44", 6)
	same := sheet(5, 5, "00 10 20 31 32 33 44", 6)
	spoil(t, func() []int { l, _ := list.Greatest(s); return l })
	spoil(t, func() []int { c, _ := list.Cover(s); return c.Left })
	spoil(t, func() []int { c, _ := list.Cover(s); return c.Right })
	spoil(t, func() []int { l, _ := list.Kinds(s); return l })
	spoil(t, func() []int { l, _ := list.Items(s, false); return l })
	spoil(t, func() []int { l, _ := list.Items(s, true); return l })
	if !reflect.DeepEqual(s, same) {
		t.Error(s)
	}
	c, e := list.Cover(s)
	left := slices.Clone(c.Left)
	for i := range c.Right[:cap(c.Right)] {
		c.Right[:cap(c.Right)][i] = -7
	}
	if !slices.Equal(c.Left, left) || e != api.OK {
		t.Error(c, left, e)
	}
}

// R3: a nil list and an empty one are the same.
func TestNil(t *testing.T) {
	for _, s := range []api.ListSheet{chapter(), sheet(2, 2, "")} {
		a := results(s, nil, api.ListCover{})
		s.Known = []int{}
		if s.Links == nil {
			s.Links = []api.ListLink{}
		}
		b := results(s, []int{}, api.ListCover{Left: []int{}, Right: []int{}})
		if !reflect.DeepEqual(a, b) {
			t.Error(a, b)
		}
	}
}

// P1, R6, R2: every call ends without a panic, with an error of the chapter or none, whatever the numbers are, and with an error all else is zero.
func TestAnyNumber(t *testing.T) {
	ints := []int{math.MinInt, -1, 0, 1, 2, 12, 13, math.MaxInt}
	for _, n := range ints {
		for _, m := range ints {
			l := []int{n, m}
			for _, a := range ints {
				for _, b := range ints {
					pair := []api.ListLink{{Left: a, Right: b}, {Left: b, Right: a}}
					checkResults(t, results(api.ListSheet{Left: n, Right: m, Links: pair, Known: l}, l, api.ListCover{Left: l, Right: l}))
					checkResults(t, results(api.ListSheet{Left: 12, Right: 12, Links: append(pair, grid(2, 2)...), Known: l}, l, api.ListCover{Left: l, Right: l}))
				}
				s := chapter()
				s.Known = []int{a}
				checkResults(t, results(s, l, api.ListCover{Left: l, Right: []int{a}}))
			}
			checkResults(t, results(chapter(), l, api.ListCover{Left: l, Right: l}))
		}
	}
	checkResults(t, results(api.ListSheet{Left: 1, Right: 1, Links: make([]api.ListLink, 100000)}, nil, api.ListCover{}))
	checkResults(t, results(chapter(), make([]int, 100000), api.ListCover{Left: make([]int, 100000)}))
}

// checkResults checks that all results are as they may be: an error of the chapter, and zero values in front of it.
func checkResults(t *testing.T, all []any) {
	t.Helper()
	for i, x := range all {
		e, ok := x.(api.Errno)
		if !ok {
			continue
		}
		if !slices.Contains([]api.Errno{0, 2, 3, 5, 6, 11, 14, 16}, e) {
			t.Fatal(i, e, all)
		}
		if i > 2 && e != api.OK && !reflect.ValueOf(all[i-1]).IsZero() {
			t.Fatal(i, e, all)
		}
	}
}

// README.md tells these numbers.
func TestReadme(t *testing.T) {
	s := sheet(3, 4, "00 01 11 12 23 03")
	checkFound(t, s, found{3, "111120", "222", "1112"})
	checkAsk(t, s, 0, 2, api.OK)
}
