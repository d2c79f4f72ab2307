package right_test

import (
	"math"
	"reflect"
	"slices"
	"testing"

	"mandrel/api"
	"mandrel/right"
)

// broken is what Broken returns.
type broken struct {
	taboo int
	chain []api.RightStep
}

// question is the arguments of all functions but the book.
type question struct {
	granted   []int
	taboo     int
	chain     []api.RightStep
	conflicts [][]int
}

// results returns what all functions return for a book and the other arguments.
func results(b api.RightBook, q question) []any {
	all := []any{right.CheckBook(b), right.Check(b, q.granted), right.CheckChain(b, q.granted, q.taboo, q.chain)}
	one := func(x any, e api.Errno) { all = append(all, x, e) }
	holds, e := right.Holds(b, q.granted)
	one(holds, e)
	taboo, chain, e := right.Broken(b, q.granted)
	one(broken{taboo, chain}, e)
	decided, e := right.Decide(b)
	one(decided, e)
	granted, e := right.Fewest(b)
	one(granted, e)
	proof, e := right.Conflicts(b)
	one(proof, e)
	refused, e := right.CheckConflicts(b, q.conflicts)
	one(refused, e)
	return all
}

// roomy returns a list with numbers behind its end.
func roomy(l []int) []int { return append(slices.Clone(l), 77, 77)[:len(l)] }

// whole returns all that a list has room for.
func whole[T any](l []T) []T { return l[:cap(l)] }

// roomyRules returns rules with Needs behind which there are numbers, and with rules behind their end.
func roomyRules(l []api.RightRule) []api.RightRule {
	out := append(slices.Clone(l), rule(77), rule(77))
	for i, r := range l {
		out[i].Needs = roomy(r.Needs)
	}
	return out[:len(l)]
}

// roomyLists returns lists with numbers behind their ends, and with lists behind its end.
func roomyLists(l [][]int) [][]int {
	out := append(slices.Clone(l), []int{77}, []int{77})
	for i := range l {
		out[i] = roomy(l[i])
	}
	return out[:len(l)]
}

// copied returns all that lists have room for, in new memory.
func copied(l [][]int) [][]int {
	var out [][]int
	for _, x := range whole(l) {
		out = append(out, slices.Clone(whole(x)))
	}
	return out
}

// copiedRules returns all that rules have room for, in new memory.
func copiedRules(l []api.RightRule) []api.RightRule {
	out := slices.Clone(whole(l))
	for i, r := range out {
		out[i].Needs = slices.Clone(whole(r.Needs))
	}
	return out
}

// R5, R10: no argument is changed, not behind its end either, and equal calls return equal results.
func TestArguments(t *testing.T) {
	for i, b := range []api.RightBook{chapter(), full(), ladder(), spiky(), book(3, "0", "1>2", "0>1, 0>2, 2>1", "1, 1 2")} {
		b.Start, b.Taboos = roomy(b.Start), roomyLists(b.Taboos)
		b.Rules, b.Asks = roomyRules(b.Rules), roomyRules(b.Asks)
		q := question{roomy([]int{0}), 0, append(steps("a0 r0"), steps("r7 r7")...)[:2], roomyLists(lists("0, 0"))}
		all := func() []any {
			book := []any{slices.Clone(whole(b.Start)), copied(b.Taboos), copiedRules(b.Rules), copiedRules(b.Asks)}
			return append(book, slices.Clone(whole(q.granted)), slices.Clone(whole(q.chain)), copied(q.conflicts))
		}
		was := all()
		first := results(b, q)
		for range 5 {
			if again := results(b, q); !reflect.DeepEqual(first, again) {
				t.Error(i, first, again)
			}
		}
		if is := all(); !reflect.DeepEqual(is, was) {
			t.Error(i, is, was)
		}
	}
}

// spoil calls twice, overwrites all that the one result has room for, and checks that neither the other one nor a third one changes.
func spoil[T comparable](t *testing.T, bad T, call func() []T) {
	t.Helper()
	other, l := call(), call()
	was := slices.Clone(l)
	l = whole(l)
	for i := range l {
		l[i] = bad
	}
	if len(was) == 0 || !slices.Equal(was, other) || !slices.Equal(was, call()) {
		t.Error(was, other)
	}
}

// R5: a result shares no memory with an argument or another result, nor a part of it with another part.
func TestResults(t *testing.T) {
	for _, b := range []api.RightBook{chapter(), full()} {
		granted, same := upTo(0, len(b.Asks)-1), upTo(0, len(b.Asks)-1)
		start := slices.Clone(b.Start)
		spoil(t, 77, func() []int { l, _ := right.Holds(b, granted); return l })
		spoil(t, 77, func() []int { l, _ := right.Holds(b, nil); return l })
		spoil(t, api.RightStep{Number: 77}, func() []api.RightStep { _, l, _ := right.Broken(b, granted); return l })
		spoil(t, 77, func() []int { l, _ := right.Decide(b); return l })
		spoil(t, 77, func() []int { l, _ := right.Fewest(b); return l })
		proof, _ := right.Conflicts(b)
		for i := range proof {
			was := copied(proof)
			for j := range whole(proof[i]) {
				whole(proof[i])[j] = 77
			}
			was[i] = slices.Clone(whole(proof[i]))
			if is := copied(proof); !reflect.DeepEqual(is, was) {
				t.Error(i, is, was)
			}
		}
		if again, _ := right.Conflicts(b); slices.ContainsFunc(again, func(l []int) bool { return slices.Contains(l, 77) }) {
			t.Error(again)
		}
		if !slices.Equal(granted, same) || !slices.Equal(b.Start, start) {
			t.Error(granted, b.Start)
		}
	}
}

// filled returns a book with empty lists instead of nil ones.
func filled(b api.RightBook) api.RightBook {
	b.Start = append([]int{}, b.Start...)
	b.Rules, b.Asks = append([]api.RightRule{}, b.Rules...), append([]api.RightRule{}, b.Asks...)
	for _, l := range [][]api.RightRule{b.Rules, b.Asks} {
		for i, r := range l {
			l[i].Needs = append([]int{}, r.Needs...)
		}
	}
	b.Taboos = append([][]int{}, b.Taboos...)
	for i, l := range b.Taboos {
		b.Taboos[i] = append([]int{}, l...)
	}
	return b
}

// R3: a nil list and an empty one are the same.
func TestNil(t *testing.T) {
	for _, b := range []api.RightBook{chapter(), ladder(), {Facts: 2}, {}, book(2, "", ">0", ">1", "1"), book(2, "", "", "", " ")} {
		a := results(b, question{nil, 0, nil, nil})
		if b := results(filled(b), question{[]int{}, 0, []api.RightStep{}, [][]int{}}); !reflect.DeepEqual(a, b) {
			t.Error(a, b)
		}
		c := results(b, question{nil, 0, nil, [][]int{nil}})
		if d := results(filled(b), question{[]int{}, 0, []api.RightStep{}, [][]int{{}}}); !reflect.DeepEqual(c, d) {
			t.Error(c, d)
		}
	}
}

// P1, R6, R2: every call ends without a panic, with an error of the chapter or none, whatever the numbers are, and with an error all else is zero.
func TestAnyNumber(t *testing.T) {
	ints := []int{math.MinInt, -1, 0, 1, 2, 4, 6, 12, 30, 31, 40, math.MaxInt}
	for _, n := range ints {
		for _, m := range ints {
			for _, a := range ints {
				chain := []api.RightStep{{Ask: true, Number: 0}, {Number: n}, {Ask: true, Number: m}, {Number: a}}
				q := question{[]int{n, m}, a, chain, [][]int{{n}, {m, a}}}
				one := rule(a, n, m)
				for _, b := range []api.RightBook{
					{Facts: n, Start: []int{m}, Rules: []api.RightRule{rule(a, m)}, Asks: []api.RightRule{rule(m, a)}, Taboos: [][]int{{a}}},
					{Facts: 30, Start: []int{n, m}, Taboos: [][]int{{a}, {n, m}}},
					{Facts: 30, Rules: []api.RightRule{one}, Asks: []api.RightRule{rule(0)}, Taboos: [][]int{{1, 2}}},
					{Facts: 30, Asks: []api.RightRule{one, rule(0), rule(1)}, Taboos: [][]int{{1}, {a}}},
				} {
					checkResults(t, results(b, q))
				}
				checkResults(t, results(chapter(), q))
				q.granted = []int{0, 1, 2}
				checkResults(t, results(chapter(), q))
				q.taboo = 0
				checkResults(t, results(chapter(), q))
			}
		}
	}
	long := make([]int, 100000)
	q := question{long, 0, make([]api.RightStep, 100000), make([][]int, 100000)}
	many := make([]api.RightRule, 100000)
	for _, b := range []api.RightBook{chapter(), full(), ladder(), spiky(), {Facts: 9, Start: long}, {Facts: 9, Rules: many}, {Facts: 9, Asks: many}, {Facts: 9, Taboos: q.conflicts}, {Facts: 9, Rules: []api.RightRule{{Needs: long}}}, {Facts: 9, Taboos: [][]int{long}}} {
		checkResults(t, results(b, q))
		checkResults(t, results(b, question{[]int{0}, 0, q.chain[:api.MaxLong], q.conflicts[:api.MaxLong]}))
	}
}

// checkResults checks that all results are as they may be: an error of the chapter, and zero values in front of it.
func checkResults(t *testing.T, all []any) {
	t.Helper()
	for i, x := range all {
		e, ok := x.(api.Errno)
		if !ok {
			continue
		}
		if !slices.Contains([]api.Errno{0, 2, 3, 5, 6, 14, 16, 21, 23}, e) {
			t.Fatal(i, e, all)
		}
		if i > 2 && e != api.OK && !reflect.ValueOf(all[i-1]).IsZero() {
			t.Fatal(i, e, all)
		}
	}
}

// README.md tells these numbers.
func TestReadme(t *testing.T) {
	b := book(6, "0 4", "1>3, 2 5>1", "0>2, 0>5, 5>1, 0>1", "3 4")
	if l := holdsOf(t, b, numbers("0 2")); !slices.Equal(l, numbers("0 2 4")) {
		t.Error(l)
	}
	taboo, chain, e := right.Broken(b, numbers("0 1"))
	if taboo != 0 || !slices.Equal(chain, steps("a0 a1 r1 r0")) || e != api.OK {
		t.Error(taboo, chain, e)
	}
	if l := decideOf(t, b); !slices.Equal(l, numbers("-1 0 -1 0")) {
		t.Error(l)
	}
	if l := fewestOf(t, b); !slices.Equal(l, numbers("0 2")) {
		t.Error(l)
	}
	proof, e := right.Conflicts(b)
	if !reflect.DeepEqual(proof, lists("3, 0 1, 1 2")) || e != api.OK {
		t.Error(proof, e)
	}
	if n, e := right.CheckConflicts(b, proof); n != 2 || e != api.OK {
		t.Error(n, e)
	}
}
