package right_test

import (
	"math"
	"slices"
	"strconv"
	"strings"
	"testing"

	"mandrel/api"
	"mandrel/right"
)

// numbers reads whole numbers with spaces between them.
func numbers(text string) []int {
	var l []int
	for _, x := range strings.Fields(text) {
		n, _ := strconv.Atoi(x)
		l = append(l, n)
	}
	return l
}

// lists reads lists of numbers, with commas between them; no text is no list.
func lists(text string) [][]int {
	var l [][]int
	if text == "" {
		return nil
	}
	for x := range strings.SplitSeq(text, ",") {
		l = append(l, numbers(x))
	}
	return l
}

// rules reads rules, with commas between them: Needs, and Gives behind a >.
func rules(text string) []api.RightRule {
	var l []api.RightRule
	for x := range strings.SplitSeq(text, ",") {
		if needs, gives, ok := strings.Cut(x, ">"); ok {
			l = append(l, rule(numbers(gives)[0], numbers(needs)...))
		}
	}
	return l
}

// rule returns a rule.
func rule(gives int, needs ...int) api.RightRule {
	return api.RightRule{Needs: needs, Gives: gives}
}

// steps reads steps: a letter, r for a rule and a for an ask, with the number.
func steps(text string) []api.RightStep {
	var l []api.RightStep
	for _, x := range strings.Fields(text) {
		n, _ := strconv.Atoi(x[1:])
		l = append(l, api.RightStep{Ask: x[0] == 'a', Number: n})
	}
	return l
}

// book returns a book.
func book(facts int, start, always, asks, taboos string) api.RightBook {
	return api.RightBook{Facts: facts, Start: numbers(start), Rules: rules(always), Asks: rules(asks), Taboos: lists(taboos)}
}

// chapter returns the book B of the chapter.
func chapter() api.RightBook {
	return book(5, "0 3", "1>2", "0>1, 0>4, 0 4>2", "2 3")
}

// upTo returns the numbers from one up to another one.
func upTo(from, to int) []int {
	var l []int
	for n := from; n <= to; n++ {
		l = append(l, n)
	}
	return l
}

// full returns a book with as much of all as a book can have: the asks give the facts 1 to 12, from six facts follows the next one, and the rules for this come the last one first.
func full() api.RightBook {
	b := api.RightBook{Facts: api.MaxRightFacts, Start: []int{0}}
	for ask := range api.MaxRightAsks {
		b.Asks = append(b.Asks, rule(ask+1, 0))
	}
	for fact := api.MaxRightFacts - 1; fact > api.MaxRightAsks; fact-- {
		b.Rules = append(b.Rules, rule(fact, upTo(fact-6, fact-1)...))
	}
	for len(b.Rules) < api.MaxRightRules {
		b.Rules = append(b.Rules, rule(1, 1, 3, 5, 7, 9, 11))
	}
	b.Taboos = lists("24 25 26 27 28 29, 1 2 3 4 5 6, 1 3 5 7 9 11, 2 4 6 8 10 12, 1 2 4 8 10 11, 3 4 5 6 7 8, 1 2 3 10 11 12, 1 2 5 6 9 10, 3 4 7 8 11 12, 13 14 15 16 17 18")
	return b
}

// ladder returns a book in which the only ask leads to all other facts one after another, by rules the last one of which comes first.
func ladder() api.RightBook {
	b := api.RightBook{Facts: api.MaxRightFacts, Asks: []api.RightRule{rule(0)}}
	for fact := b.Facts - 1; fact > 0; fact-- {
		b.Rules = append(b.Rules, rule(fact, fact-1))
	}
	b.Taboos = [][]int{{b.Facts - 1}}
	return b
}

// spiky returns a book in which each ask alone breaks a taboo.
func spiky() api.RightBook {
	b := api.RightBook{Facts: 1, Taboos: [][]int{{0}}}
	for range api.MaxRightAsks {
		b.Asks = append(b.Asks, rule(0))
	}
	return b
}

// errors returns the errors of all functions for a book, each other argument of which is wrong as well.
func errors(b api.RightBook) []api.Errno {
	bad := []int{-1}
	_, c := right.Holds(b, bad)
	_, _, d := right.Broken(b, bad)
	_, e := right.Decide(b)
	_, f := right.Fewest(b)
	_, g := right.Conflicts(b)
	_, h := right.CheckConflicts(b, make([][]int, api.MaxLong+1))
	return []api.Errno{right.CheckBook(b), c, right.Check(b, bad), d, right.CheckChain(b, bad, -1, nil), e, f, g, h}
}

// P10.1: valid books, and the errors in their order, which all functions return before their own.
func TestBook(t *testing.T) {
	seven := "0 1 2 3 4 5 6"
	many := func(n int, text string) string { return strings.Repeat(text+",", n-1) + text }
	for i, x := range []struct {
		b api.RightBook
		e api.Errno
	}{
		{chapter(), api.OK},
		{full(), api.OK},
		{ladder(), api.OK},
		{spiky(), api.OK},
		{book(1, "", "", "", ""), api.OK},
		{book(1, "0", ">0, 0>0", ">0, 0>0", ""), api.OK},
		{book(30, "", "0 1 2 3 4 5>29", "24 25 26 27 28 29>0", "24 25 26 27 28 29"), api.OK},
		{book(2, "0", many(40, "0>0"), many(12, "0>1"), many(10, "0 1")), api.OK},
		{api.RightBook{Facts: 30, Start: upTo(0, 29)}, api.OK},
		{api.RightBook{}, api.ErrMany},
		{book(0, "", "", "", ""), api.ErrMany},
		{book(-1, "", "", "", ""), api.ErrMany},
		{book(31, "", "", "", ""), api.ErrMany},
		{book(math.MaxInt, "", "", "", ""), api.ErrMany},
		{book(math.MinInt, "", "", "", ""), api.ErrMany},
		{book(2, "0", many(41, "0>0"), "", ""), api.ErrMany},
		{book(2, "0", "", many(13, "0>0"), ""), api.ErrMany},
		{book(2, "0", "", "", many(11, "0 1")), api.ErrMany},
		{book(9, "", seven+">0", "", ""), api.ErrMany},
		{book(9, "", "0>1,"+seven+">0", "", ""), api.ErrMany},
		{book(9, "", "", seven+">0", ""), api.ErrMany},
		{book(9, "", "", "0>1,"+seven+">0", ""), api.ErrMany},
		{book(9, "", "", "", seven), api.ErrMany},
		{book(9, "", "", "", "0, "+seven), api.ErrMany},
		{book(9, "", "", "", " "), api.ErrMany},
		{book(9, "", "", "", "0, , 1"), api.ErrMany},
		// Start.
		{book(3, "0 1 2", "", "", ""), api.OK},
		{book(3, "0 3", "", "", ""), api.ErrArg},
		{book(3, "-1 0", "", "", ""), api.ErrArg},
		{book(3, "1 0", "", "", ""), api.ErrArg},
		{book(3, "1 1", "", "", ""), api.ErrArg},
		{book(3, "0 2 1", "", "", ""), api.ErrArg},
		{book(3, "9223372036854775807", "", "", ""), api.ErrArg},
		{book(3, "-9223372036854775808", "", "", ""), api.ErrArg},
		{api.RightBook{Facts: 30, Start: upTo(0, 30)}, api.ErrArg},
		{api.RightBook{Facts: 30, Start: make([]int, 100000)}, api.ErrArg},
		// Needs, Gives and taboos.
		{book(3, "", "3>0", "", ""), api.ErrArg},
		{book(3, "", "0>0, -1 0>0", "", ""), api.ErrArg},
		{book(3, "", "0 2 1>0", "", ""), api.ErrArg},
		{book(3, "", "2 2>0", "", ""), api.ErrArg},
		{book(3, "", "0>3", "", ""), api.ErrArg},
		{book(3, "", "0>0, 0>-1", "", ""), api.ErrArg},
		{book(3, "", "0>9223372036854775807", "", ""), api.ErrArg},
		{book(3, "", "0>-9223372036854775808", "", ""), api.ErrArg},
		{book(3, "", "", "3>0", ""), api.ErrArg},
		{book(3, "", "", "0>0, -1 0>0", ""), api.ErrArg},
		{book(3, "", "", "0 2 1>0", ""), api.ErrArg},
		{book(3, "", "", "2 2>0", ""), api.ErrArg},
		{book(3, "", "", "0>3", ""), api.ErrArg},
		{book(3, "", "", "0>0, 0>-1", ""), api.ErrArg},
		{book(3, "", "", "", "3"), api.ErrArg},
		{book(3, "", "", "", "0, -1 0"), api.ErrArg},
		{book(3, "", "", "", "1 0"), api.ErrArg},
		{book(3, "", "", "", "0, 1 1"), api.ErrArg},
		// A taboo that is broken from the start on, or by rules; an ask breaks none here.
		{book(3, "0", "", "", "0"), api.ErrClash},
		{book(3, "0 1", "", "", "2, 0 1"), api.ErrClash},
		{book(3, "0", "", "", "0 1"), api.OK},
		{book(3, "", ">0", "", "0"), api.ErrClash},
		{book(4, "0", "2>3, 1>2, 0>1", "", "1 3"), api.ErrClash},
		{book(4, "0", "2>3, 1>2, 0>1", "", "0 1 2 3"), api.ErrClash},
		{book(4, "0", "0 2>3, 0>1", "0>2", "1 3"), api.OK},
		{book(3, "", "", ">0", "0"), api.OK},
		{book(3, "", "0>0, 1>2, 2>1", "", "1 2"), api.OK},
		// ErrMany before ErrArg, ErrArg before ErrClash, wherever they are.
		{book(0, "0", "0>0", "0>0", "0"), api.ErrMany},
		{book(9, "1 0", "9>9", "0>9", "0, "+seven), api.ErrMany},
		{book(9, "0", "", seven+">9", "0"), api.ErrMany},
		{book(9, "0", "0>9", "9>0", " "), api.ErrMany},
		{book(2, "0", many(41, "0>2"), "", "0"), api.ErrMany},
		{book(9, "0", "", "", "0, 9"), api.ErrArg},
		{book(9, "0", "", "0>9", "0"), api.ErrArg},
		{book(9, "0", "9>0", "", "0"), api.ErrArg},
		{book(9, "0 0", "", "", "0"), api.ErrArg},
	} {
		if e := right.CheckBook(x.b); e != x.e {
			t.Error(i, e)
		}
		if x.e == api.OK {
			continue
		}
		if got := errors(x.b); !slices.Equal(got, slices.Repeat([]api.Errno{x.e}, len(got))) {
			t.Error(i, got)
		}
	}
}

// P10.2 to P10.4: a list of asks that is none, before other errors.
func TestGranted(t *testing.T) {
	for i, x := range []struct {
		granted []int
		e       api.Errno
	}{
		{nil, api.OK},
		{numbers("0 1 2"), api.OK},
		{numbers("2"), api.OK},
		{numbers("3"), api.ErrRange},
		{numbers("-1"), api.ErrRange},
		{numbers("-1 0"), api.ErrRange},
		{numbers("0 3"), api.ErrRange},
		{numbers("1 0"), api.ErrRange},
		{numbers("1 1"), api.ErrRange},
		{numbers("0 2 1"), api.ErrRange},
		{numbers("9223372036854775807"), api.ErrRange},
		{numbers("-9223372036854775808"), api.ErrRange},
		{upTo(0, 100000), api.ErrRange},
		{make([]int, 100000), api.ErrRange},
	} {
		l, e := right.Holds(chapter(), x.granted)
		if e != x.e || e != api.OK && len(l) != 0 {
			t.Error(i, l, e)
		}
		if e := right.Check(chapter(), x.granted); (e == api.ErrRange) != (x.e == api.ErrRange) {
			t.Error(i, e)
		}
		taboo, chain, e := right.Broken(chapter(), x.granted)
		if (e == api.ErrRange) != (x.e == api.ErrRange) || e == api.ErrRange && (taboo != 0 || len(chain) != 0) {
			t.Error(i, taboo, chain, e)
		}
		if e := right.CheckChain(chapter(), x.granted, 9, make([]api.RightStep, api.MaxLong+1)); (e == api.ErrRange) != (x.e == api.ErrRange) {
			t.Error(i, e)
		}
		n, e := right.CheckConflicts(chapter(), [][]int{{1, 2}, x.granted})
		if (e == api.ErrRange) != (x.e == api.ErrRange) || e == api.ErrRange && n != 0 {
			t.Error(i, n, e)
		}
	}
	if e := right.Check(book(1, "", "", "", ""), []int{0}); e != api.ErrRange {
		t.Error(e)
	}
}

// P10.4: chains, and what is none.
func TestCheckChain(t *testing.T) {
	b := chapter()
	wide := book(6, "0", "1 2>3, >4, 4>5", "0>1, 0>2, 3>5", "3, 4 5, 0 3")
	wide.Rules[1].Needs = numbers("3")
	for i, x := range []struct {
		b       api.RightBook
		granted string
		taboo   int
		chain   string
		e       api.Errno
	}{
		{b, "0", 0, "a0 r0", api.OK},
		{b, "0", 0, "a0 a0 r0 a0 r0", api.OK},
		{b, "0 1 2", 0, "a1 a2", api.OK},
		{b, "0 1 2", 0, "a1 a0 a2", api.OK},
		{b, "1 2", 0, "a1 a2", api.OK},
		{b, "0", 0, "r0 a0", api.ErrRule},
		{b, "0", 0, "r0", api.ErrRule},
		{b, "0", 0, "a0", api.ErrSum},
		{b, "0", 0, "", api.ErrSum},
		{b, "", 0, "", api.ErrSum},
		{b, "1 2", 0, "a2 a1", api.ErrRule},
		// An ask that is not granted, and what is no rule or no ask.
		{b, "", 0, "a0 r0", api.ErrRule},
		{b, "1", 0, "a1 a2", api.ErrRule},
		{b, "2", 0, "a1 a2", api.ErrRule},
		{b, "0", 0, "a0 r1", api.ErrRule},
		{b, "0", 0, "a0 r-1", api.ErrRule},
		{b, "0", 0, "a0 r0 a3", api.ErrRule},
		{b, "0", 0, "a0 r0 a-1", api.ErrRule},
		{b, "0", 0, "a0 r0 r9223372036854775807", api.ErrRule},
		{b, "0", 0, "a0 r0 a9223372036854775807", api.ErrRule},
		{b, "0", 0, "a0 r0 r-9223372036854775808", api.ErrRule},
		{b, "0", 0, "a0 r0 a-9223372036854775808", api.ErrRule},
		{b, "0", 0, "a0 r0 a1", api.ErrRule},
		// All Needs, all facts of the taboo; a step behind is too late.
		{wide, "0 1", 0, "a0 a1 r0", api.OK},
		{wide, "0 1", 2, "a1 a0 r0", api.OK},
		{wide, "0 1", 0, "a0 r0", api.ErrRule},
		{wide, "0 1", 0, "a1 r0", api.ErrRule},
		{wide, "0 1", 0, "a0 r0 a1", api.ErrRule},
		{wide, "0 1", 1, "a0 a1 r0 r1 r2", api.OK},
		{wide, "0 1", 1, "a0 a1 r0 r1", api.ErrSum},
		{wide, "0 1 2", 1, "a0 a1 r0 a2", api.ErrSum},
		{wide, "0 1 2", 1, "a0 a1 r0 a2 r1", api.OK},
		{wide, "0 1 2", 0, "a2", api.ErrRule},
		// A step that is none, though the taboo is broken before it.
		{wide, "0 1", 0, "a0 a1 r0 r2", api.ErrRule},
		{wide, "0 1", 0, "a0 a1 r0 r1 r2", api.OK},
		// The taboo first.
		{b, "0", 1, "a0 r0", api.ErrArg},
		{b, "0", -1, "a0 r0", api.ErrArg},
		{b, "0", math.MaxInt, "a0 r0", api.ErrArg},
		{b, "0", math.MinInt, "a0 r0", api.ErrArg},
		{b, "0", 1, "r9", api.ErrArg},
		{book(1, "", "", ">0", ""), "0", 0, "a0", api.ErrArg},
		{wide, "0 1", 3, "a0", api.ErrArg},
	} {
		if e := right.CheckChain(x.b, numbers(x.granted), x.taboo, steps(x.chain)); e != x.e {
			t.Error(i, e)
		}
	}
	long := append(steps("a0 r0"), slices.Repeat(steps("a0"), api.MaxLong-2)...)
	if e := right.CheckChain(b, []int{0}, 0, long); e != api.OK {
		t.Error(e)
	}
	long = append(long, steps("r9")...)
	for i, x := range []struct {
		granted, taboo int
		chain          []api.RightStep
		e              api.Errno
	}{{0, 0, long, api.ErrMany}, {0, 1, long, api.ErrArg}, {3, 1, long, api.ErrRange}, {0, 0, make([]api.RightStep, 100000), api.ErrMany}, {0, 0, long[1:], api.ErrRule}} {
		if e := right.CheckChain(b, []int{x.granted}, x.taboo, x.chain); e != x.e {
			t.Error(i, e)
		}
	}
}

// P10.7: conflicts with the refusals that they need, and lists that are none.
func TestCheckConflicts(t *testing.T) {
	b := chapter()
	// Each ask gives a fact, and any two neighbours of a circle of five are a conflict; the asks 5 and 6 break taboos alone.
	circle := book(8, "", "", ">0, >1, >2, >3, >4, >5, >6, >7", "0 1, 1 2, 2 3, 3 4, 0 4, 5, 6")
	for i, x := range []struct {
		b       api.RightBook
		l       string
		refused int
		e       api.Errno
	}{
		{b, "", 0, api.OK},
		{b, "0", 1, api.OK},
		{b, "0, 0, 0", 1, api.OK},
		{b, "0, 0 1, 0 1 2", 1, api.OK},
		{b, "0 1, 0 2", 1, api.OK},
		{b, "1 2", 1, api.OK},
		{b, "1 2, 0 2", 1, api.OK},
		{b, "1 2, 0", 2, api.OK},
		{b, "1", 0, api.ErrSum},
		{b, "2", 0, api.ErrSum},
		{b, " ", 0, api.ErrSum},
		{b, "0, 1 2, ", 0, api.ErrSum},
		{b, "0, 1 2, 1", 0, api.ErrSum},
		{b, "1, 0, 1 2", 0, api.ErrSum},
		{b, "0, 3", 0, api.ErrRange},
		{b, "1, 3", 0, api.ErrRange},
		{b, "0, -1", 0, api.ErrRange},
		{b, "0, 2 1", 0, api.ErrRange},
		{b, "1, 0 0", 0, api.ErrRange},
		{circle, "0 1, 1 2, 2 3, 3 4, 0 4", 3, api.OK},
		{circle, "0 1, 1 2, 2 3, 3 4", 2, api.OK},
		{circle, "0 1, 2 3", 2, api.OK},
		{circle, "0 1, 1 2", 1, api.OK},
		{circle, "0 1, 1 2, 2 3, 3 4, 0 4, 5, 6", 5, api.OK},
		{circle, "0 1 2 3 4 5 6 7", 1, api.OK},
		{circle, "0 5 7, 1 6 7, 2 3 7", 1, api.OK},
		{circle, "0 5 7, 1 6 7, 2 3", 2, api.OK},
		{circle, "0 5 7, 1 6 7, 2 3, 7", 0, api.ErrSum},
		{circle, "0 2, 1 2", 0, api.ErrSum},
		{book(1, "", "", "", ""), "", 0, api.OK},
		{book(1, "", "", "", ""), " ", 0, api.ErrSum},
		{book(1, "", "", "", ""), "0", 0, api.ErrRange},
	} {
		if n, e := right.CheckConflicts(x.b, lists(x.l)); n != x.refused || e != x.e {
			t.Error(i, n, e)
		}
	}
	many := slices.Repeat([][]int{{0}}, api.MaxLong)
	if n, e := right.CheckConflicts(b, many); n != 1 || e != api.OK {
		t.Error(n, e)
	}
	for i, last := range [][]int{{0}, {1}, {3}} {
		if n, e := right.CheckConflicts(b, append(many[:api.MaxLong:api.MaxLong], last)); n != 0 || e != api.ErrMany {
			t.Error(i, n, e)
		}
	}
}

// P10.7: all lists of asks as conflicts, the longest ones first, all of which have to be looked at for each number of refusals.
func TestAllConflicts(t *testing.T) {
	var all [][]int
	for list := range 1 << api.MaxRightAsks {
		all = append(all, picked(uint(list)))
	}
	slices.SortFunc(all, func(a, b []int) int { return len(b) - len(a) })
	all[len(all)-1] = []int{3}
	for single, refused := range []int{12, 11, 11} {
		if n, e := right.CheckConflicts(spiky(), all[:len(all)-1-single]); n != refused || e != api.OK {
			t.Error(single, n, e)
		}
	}
	if n, e := right.CheckConflicts(spiky(), all); n != api.MaxRightAsks || e != api.OK {
		t.Error(n, e)
	}
}
