package family_test

import (
	"math"
	"reflect"
	"slices"
	"testing"

	"mandrel/api"
	"mandrel/family"
)

// cheapest is what Cheapest returns.
type cheapest struct {
	tree   []int
	fewest int64
}

// results returns what all functions return for a book, a tree and prices.
func results(b api.FamilyBook, tree []int, l []api.FamilyPrice) []any {
	all := []any{family.CheckBook(b)}
	one := func(x any, e api.Errno) { all = append(all, x, e) }
	changes, e := family.CheckTree(b, tree)
	one(changes, e)
	lost, e := family.Lost(b)
	one(lost, e)
	found, fewest, e := family.Cheapest(b)
	one(cheapest{found, fewest}, e)
	proof, e := family.Prices(b)
	one(proof, e)
	bound, e := family.CheckPrices(b, l)
	one(bound, e)
	most, e := family.Most(b)
	one(most, e)
	grades, e := family.Grades(b)
	one(grades, e)
	return all
}

// clonePrices returns prices with new lists of variants.
func clonePrices(l []api.FamilyPrice) []api.FamilyPrice {
	out := slices.Clone(l)
	for i := range out {
		out[i].Songs = slices.Clone(l[i].Songs)
	}
	return out
}

// R5, R10: no argument is changed, not behind its end either, and equal calls return equal results.
func TestArguments(t *testing.T) {
	for i, b := range []api.FamilyBook{chapter(), full(), deep(), book(4, 0, "1 2 3"), book(4, 0, "0 1 0, 1 0 0, 1 2 0, 2 1 0, 1 3 0, 2 3 0, 3 2 0")} {
		room := append(slices.Clone(b.Steps), steps("7 7 7, 7 7 7")...)
		tree := numbers("-1 0 2 4 7 7")
		l := append(prices("1 2, 2 1, 3 3, 1 2 3, 7 7, 7 7"), api.FamilyPrice{})
		l[3].Songs = append(l[3].Songs, 7, 7)[:2]
		was := []any{slices.Clone(room), slices.Clone(tree), clonePrices(l), slices.Clone(l[3].Songs[:4])}
		b.Steps = room[:len(b.Steps)]
		call := func() []any { return results(b, tree[:4], l[:4]) }
		first := call()
		for range 20 {
			if again := call(); !reflect.DeepEqual(first, again) {
				t.Error(i, first, again)
			}
		}
		if is := []any{room, tree, l, l[3].Songs[:4]}; !reflect.DeepEqual(is, was) {
			t.Error(i, is, was)
		}
	}
}

// spoil calls twice, overwrites all that the one result has room for, and checks that neither the other one nor a third one changes.
func spoil[T any](t *testing.T, bad T, call func() []T) {
	t.Helper()
	other, l := call(), call()
	was := call()
	l = l[:cap(l)]
	for i := range l {
		l[i] = bad
	}
	if len(was) == 0 || !reflect.DeepEqual(was, other) || !reflect.DeepEqual(was, call()) {
		t.Error(was, other)
	}
}

// R5: a result shares no memory with an argument or another result, nor a part of it with another part.
func TestResults(t *testing.T) {
	for _, b := range []api.FamilyBook{chapter(), deep()} {
		same := slices.Clone(b.Steps)
		spoil(t, 77, func() []int { l, _ := family.Lost(api.FamilyBook{Songs: 9, Root: 3, Steps: b.Steps[:1]}); return l })
		spoil(t, 77, func() []int { l, _, _ := family.Cheapest(b); return l })
		spoil(t, 77, func() []int { l, _ := family.Grades(b); return l })
		spoil(t, price(77), func() []api.FamilyPrice { l, _ := family.Prices(b); return l })
		proof, _ := family.Prices(b)
		for i := range proof {
			was := clonePrices(proof)
			songs := proof[i].Songs[:cap(proof[i].Songs)]
			for j := range songs {
				songs[j] = 77
			}
			was[i].Songs = proof[i].Songs
			if !reflect.DeepEqual(proof, was) {
				t.Error(i, proof, was)
			}
		}
		if !slices.Equal(b.Steps, same) {
			t.Error(b)
		}
	}
}

// R3: a nil list and an empty one are the same.
func TestNil(t *testing.T) {
	for _, b := range []api.FamilyBook{chapter(), book(1, 0, ""), book(3, 0, "")} {
		a := results(b, nil, nil)
		if b.Steps == nil {
			b.Steps = []api.FamilyStep{}
		}
		if b := results(b, []int{}, []api.FamilyPrice{}); !reflect.DeepEqual(a, b) {
			t.Error(a, b)
		}
		c := results(b, nil, []api.FamilyPrice{{Price: 1}})
		if d := results(b, nil, []api.FamilyPrice{{Songs: []int{}, Price: 1}}); !reflect.DeepEqual(c, d) {
			t.Error(c, d)
		}
	}
}

// P1, R6, R2: every call ends without a panic, with an error of the chapter or none, whatever the numbers are, and with an error all else is zero.
func TestAnyNumber(t *testing.T) {
	ints := []int{math.MinInt, -1, 0, 1, 2, 3, 4, 16, 17, 1000000, math.MaxInt}
	for _, n := range ints {
		for _, m := range ints {
			for _, a := range ints {
				tree := []int{n, m, a, n}
				l := []api.FamilyPrice{price(int64(n), m, a), price(int64(a), n), price(int64(m), 1)}
				one := api.FamilyStep{From: n, To: m, Changes: int64(a)}
				checkResults(t, results(api.FamilyBook{Songs: n, Root: m, Steps: []api.FamilyStep{{From: a, To: n, Changes: int64(m)}}}, tree, l))
				checkResults(t, results(api.FamilyBook{Songs: n, Root: m}, tree, l))
				checkResults(t, results(with(one), tree, l))
				checkResults(t, results(chapter(), tree, l))
				checkResults(t, results(api.FamilyBook{Songs: 4, Root: 3, Steps: []api.FamilyStep{one, {From: 3, To: 1}}}, tree, l[:2]))
			}
		}
	}
	long := make([]api.FamilyPrice, 100000)
	for _, b := range []api.FamilyBook{chapter(), full(), deep(), {Songs: 16, Steps: make([]api.FamilyStep, 100000)}} {
		checkResults(t, results(b, make([]int, 100000), long))
		checkResults(t, results(b, make([]int, b.Songs), long[:40]))
	}
}

// checkResults checks that all results are as they may be: an error of the chapter, and zero values in front of it.
func checkResults(t *testing.T, all []any) {
	t.Helper()
	for i, x := range all {
		e, ok := x.(api.Errno)
		if !ok {
			continue
		}
		if !slices.Contains([]api.Errno{0, 2, 3, 5, 6, 13, 14, 15, 16}, e) {
			t.Fatal(i, e, all)
		}
		if i > 0 && e != api.OK && !reflect.ValueOf(all[i-1]).IsZero() {
			t.Fatal(i, e, all)
		}
	}
}

// README.md tells these numbers.
func TestReadme(t *testing.T) {
	m := book(5, 0, "0 1 8, 0 2 6, 1 2 2, 2 1 3, 2 3 4, 3 4 1, 4 3 1, 1 4 5")
	if tree, changes, e := family.Cheapest(m); !slices.Equal(tree, numbers("-1 3 1 4 5")) || changes != 14 || e != api.OK {
		t.Error(tree, changes, e)
	}
	proof, e := family.Prices(m)
	if !reflect.DeepEqual(proof, prices("1 3, 1 2 4, 2 2, 3 1, 3 4 3, 4 1")) || e != api.OK {
		t.Error(proof, e)
	}
	if bound, e := family.CheckPrices(m, proof); bound != 14 || e != api.OK {
		t.Error(bound, e)
	}
	if grades := gradesOf(t, m); !slices.Equal(grades, numbers("0 2 0 2 2 2 0 0")) {
		t.Error(grades)
	}
	if most := mostOf(t, m); most != 6 {
		t.Error(most)
	}
	if changes, e := family.CheckTree(m, numbers("-1 0 2 6 7")); changes != 16 || e != api.OK {
		t.Error(changes, e)
	}
}
