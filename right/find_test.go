package right_test

import (
	"slices"
	"testing"

	"mandrel/api"
	"mandrel/right"
)

// holdsOf returns what Holds finds.
func holdsOf(t *testing.T, b api.RightBook, granted []int) []int {
	t.Helper()
	l, e := right.Holds(b, granted)
	if e != api.OK {
		t.Fatal(b, granted, l, e)
	}
	return l
}

// brokenOf returns the taboo that Broken finds, after its chain was checked; -1 if the asks are safe.
func brokenOf(t *testing.T, b api.RightBook, granted []int) int {
	t.Helper()
	safe := right.Check(b, granted)
	taboo, chain, e := right.Broken(b, granted)
	if e == api.ErrNone && safe == api.OK && taboo == 0 && len(chain) == 0 {
		return -1
	}
	if e != api.OK || safe != api.ErrRight || len(chain) > api.MaxRightFacts {
		t.Fatal(b, granted, taboo, chain, e, safe)
	}
	if e := right.CheckChain(b, granted, taboo, chain); e != api.OK || chainError(b, granted, taboo, chain) != api.OK {
		t.Fatal(b, granted, taboo, chain, e)
	}
	return taboo
}

// decideOf returns what Decide finds, after it was checked ask by ask.
func decideOf(t *testing.T, b api.RightBook) []int {
	t.Helper()
	l, e := right.Decide(b)
	if len(l) != len(b.Asks) || e != api.OK {
		t.Fatal(b, l, e)
	}
	var granted []int
	for ask, taboo := range l {
		with := append(slices.Clone(granted), ask)
		if got := brokenOf(t, b, with); got != taboo {
			t.Fatal(b, l, ask, got)
		}
		if taboo == -1 {
			granted = with
		}
	}
	return l
}

// fewestOf returns what Fewest finds, with conflicts that need as many refusals as it has.
func fewestOf(t *testing.T, b api.RightBook) []int {
	t.Helper()
	l, e := right.Fewest(b)
	if e != api.OK || brokenOf(t, b, l) != -1 {
		t.Fatal(b, l, e)
	}
	proof, e := right.Conflicts(b)
	if len(proof) > api.MaxLong || e != api.OK {
		t.Fatal(b, proof, e)
	}
	if n, e := right.CheckConflicts(b, proof); n != len(b.Asks)-len(l) || e != api.OK {
		t.Fatal(b, l, proof, n, e)
	}
	return l
}

// The chapter's examples, and example 10 of DOC.md.
func TestExamples(t *testing.T) {
	b := chapter()
	for i, x := range []struct{ granted, holds string }{{"0", "0 1 2 3"}, {"1", "0 3 4"}, {"2", "0 3"}} {
		if l := holdsOf(t, b, numbers(x.granted)); !slices.Equal(l, numbers(x.holds)) {
			t.Error(i, l)
		}
	}
	if e := right.Check(b, numbers("1")); e != api.OK {
		t.Error(e)
	}
	if e := right.Check(b, numbers("1 2")); e != api.ErrRight {
		t.Error(e)
	}
	taboo, chain, e := right.Broken(b, numbers("0"))
	if taboo != 0 || !slices.Equal(chain, steps("a0 r0")) || e != api.OK {
		t.Error(taboo, chain, e)
	}
	if e := right.CheckChain(b, numbers("0"), 0, steps("r0 a0")); e != api.ErrRule {
		t.Error(e)
	}
	if e := right.CheckChain(b, numbers("0"), 0, steps("a0")); e != api.ErrSum {
		t.Error(e)
	}
	if l := decideOf(t, b); !slices.Equal(l, numbers("0 -1 0")) {
		t.Error(l)
	}
	if l := fewestOf(t, b); !slices.Equal(l, numbers("1")) {
		t.Error(l)
	}
	for i, x := range []struct {
		l string
		n int
		e api.Errno
	}{{"0, 1 2", 2, api.OK}, {"0 1", 1, api.OK}, {"1", 0, api.ErrSum}} {
		if n, e := right.CheckConflicts(b, lists(x.l)); n != x.n || e != x.e {
			t.Error(i, n, e)
		}
	}
}

// P10.2 to P10.4: what holds, and the least taboo that is broken.
func TestHolds(t *testing.T) {
	// Two ways to the fact 4, a circle of 5 and 6, and a rule without Needs.
	b := book(8, "1", "2 3>4, 5>6, 6>5, >7, 0>4", "1>2, 1 7>3, >0, 4>5", "5 6, 4, 0 4")
	for i, x := range []struct {
		b              api.RightBook
		granted, holds string
		taboo          int
	}{
		{b, "", "1 7", -1},
		{b, "0", "1 2 7", -1},
		{b, "1", "1 3 7", -1},
		{b, "0 1", "1 2 3 4 7", 1},
		{b, "2", "0 1 4 7", 1},
		{b, "3", "1 7", -1},
		{b, "0 3", "1 2 7", -1},
		{b, "0 1 3", "1 2 3 4 5 6 7", 0},
		{b, "2 3", "0 1 4 5 6 7", 0},
		{b, "0 1 2 3", "0 1 2 3 4 5 6 7", 0},
		{book(1, "", "", "", ""), "", "", -1},
		{book(1, "", "0>0", "", ""), "", "", -1},
		{book(1, "", ">0", "", ""), "", "0", -1},
		{book(1, "0", "", "", ""), "", "0", -1},
		{book(1, "", "", ">0", "0"), "0", "0", 0},
		{book(1, "", "", ">0", "0"), "", "", -1},
		{book(3, "", "0>1, 1>0, 0 1>2", "", "2"), "", "", -1},
		// An ask leads to another one, whatever their order.
		{book(4, "", "", "2>3, 1>2, 0>1, >0", "3"), "0 1 2 3", "0 1 2 3", 0},
		{book(4, "", "", "2>3, 1>2, 0>1, >0", "3"), "0 1 3", "0", -1},
		{ladder(), "", "", -1},
	} {
		if l := holdsOf(t, x.b, numbers(x.granted)); !slices.Equal(l, numbers(x.holds)) {
			t.Error(i, l)
		}
		if taboo := brokenOf(t, x.b, numbers(x.granted)); taboo != x.taboo {
			t.Error(i, taboo)
		}
	}
	if l := holdsOf(t, ladder(), []int{0}); !slices.Equal(l, upTo(0, 29)) {
		t.Error(l)
	}
	// A chain with as many steps as it can have.
	if _, chain, e := right.Broken(ladder(), []int{0}); len(chain) != api.MaxRightFacts || brokenOf(t, ladder(), []int{0}) != 0 {
		t.Error(chain, e)
	}
	if l := holdsOf(t, full(), upTo(0, 11)); !slices.Equal(l, upTo(0, 29)) {
		t.Error(l)
	}
	if l := holdsOf(t, full(), upTo(6, 11)); !slices.Equal(l, append([]int{0}, upTo(7, 29)...)) {
		t.Error(l)
	}
	if l := holdsOf(t, full(), upTo(5, 10)); !slices.Equal(l, append([]int{0}, upTo(6, 11)...)) {
		t.Error(l)
	}
}

// P10.5 to P10.7: what is decided one after another, and as few refusals as can be.
func TestFind(t *testing.T) {
	for i, x := range []struct {
		b               api.RightBook
		decided, fewest string
	}{
		{book(1, "", "", "", ""), "", ""},
		{book(1, "", "", ">0, >0", ""), "-1 -1", "0 1"},
		{book(1, "", "", ">0, >0", "0"), "0 0", ""},
		{book(2, "", "", ">0, >1, >0", "0 1"), "-1 0 -1", "0 2"},
		{book(2, "", "", ">1, >0, >0", "0 1"), "-1 0 0", "1 2"},
		// The first one of several lists that are as long.
		{book(4, "", "", ">0, >1, >2, >3", "0 1, 2 3"), "-1 0 -1 1", "0 2"},
		{book(4, "", "", ">0, >1, >2, >3", "0 1, 0 2, 0 3"), "-1 0 1 2", "1 2 3"},
		{book(4, "", "", ">0, >1, >2, >3", "0 1 2 3"), "-1 -1 -1 0", "0 1 2"},
		{book(4, "", "", ">0, >1, >2, >3", "1 2, 2 3, 1 3"), "-1 -1 0 2", "0 1"},
		{book(4, "", "", ">0, >1, >2, >3", "0 3, 1 2, 1 3, 0 2"), "-1 -1 1 0", "0 1"},
		{book(4, "", "", ">0, >1, >2, >3", "0 1, 0 2"), "-1 0 1 -1", "1 2 3"},
		// The least taboo of several.
		{book(3, "", "", ">0, >1, >2", "1 2, 0 2, 2"), "-1 -1 0", "0 1"},
		{book(3, "", "0>1", ">0, >1, >2", "1 2, 0 2, 2"), "-1 -1 0", "0 1"},
		{book(3, "", "0>1, 2>1", ">0, >1, >2", "0 2, 1 2, 0 1"), "2 -1 1", "1"},
		// An ask that cannot be used yet breaks nothing, but a later one lets it.
		{book(3, "", "", "0>1, >0, >2", "1"), "-1 0 -1", "0 2"},
		{book(3, "", "", "0>1, 2>0, >2", "1"), "-1 -1 0", "0 1"},
		// An ask that gives what another one gives too is no safer.
		{book(2, "0", "", "0>1, 0>1, 0>0", "0 1"), "0 0 -1", "2"},
	} {
		if l := decideOf(t, x.b); !slices.Equal(l, numbers(x.decided)) {
			t.Error(i, l)
		}
		if l := fewestOf(t, x.b); !slices.Equal(l, numbers(x.fewest)) {
			t.Error(i, l)
		}
	}
	if l := fewestOf(t, spiky()); len(l) != 0 || !slices.Equal(decideOf(t, spiky()), make([]int, 12)) {
		t.Error(l)
	}
	if l := fewestOf(t, full()); !slices.Equal(l, fewestBy(full())) || len(decideOf(t, full())) != 12 {
		t.Error(l)
	}
}

// P10.7: a book with many conflicts that have no other one in them: of four threes of asks any four that are of each one.
func TestManyConflicts(t *testing.T) {
	b := book(4, "", "", ">0, >0, >0, >1, >1, >1, >2, >2, >2, >3, >3, >3", "0 1 2 3")
	if l := fewestOf(t, b); !slices.Equal(l, upTo(0, 8)) {
		t.Error(l)
	}
	if l := decideOf(t, b); !slices.Equal(l, numbers("-1 -1 -1 -1 -1 -1 -1 -1 -1 0 0 0")) {
		t.Error(l)
	}
	// Any two of ten asks are a conflict, by rules and taboos.
	b = api.RightBook{Facts: 12, Taboos: lists("0 9, 1 9, 2 9, 3 9, 4 9, 10")}
	for ask := range 10 {
		b.Asks = append(b.Asks, rule(ask))
		for other := range ask {
			if ask != 9 || other > 4 {
				b.Rules = append(b.Rules, rule(10, other, ask))
			}
		}
	}
	if len(b.Rules) != api.MaxRightRules {
		t.Fatal(len(b.Rules))
	}
	if l := fewestOf(t, b); !slices.Equal(l, numbers("0")) {
		t.Error(l)
	}
	if l := decideOf(t, b); !slices.Equal(l, numbers("-1 5 5 5 5 5 5 5 5 0")) {
		t.Error(l)
	}
}
