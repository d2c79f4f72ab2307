package family_test

import (
	"math"
	"slices"
	"strconv"
	"strings"
	"testing"

	"mandrel/api"
	"mandrel/family"
)

// numbers reads whole numbers with spaces between them.
func numbers(text string) []int {
	var l []int
	for _, x := range strings.Fields(text) {
		n, _ := strconv.Atoi(x)
		l = append(l, n)
	}
	return l
}

// steps reads steps: From, To and Changes of each one, with commas between them.
func steps(text string) []api.FamilyStep {
	var l []api.FamilyStep
	for x := range strings.SplitSeq(text, ",") {
		if n := numbers(x); len(n) == 3 {
			l = append(l, api.FamilyStep{From: n[0], To: n[1], Changes: int64(n[2])})
		}
	}
	return l
}

// book returns a book.
func book(songs, root int, text string) api.FamilyBook {
	return api.FamilyBook{Songs: songs, Root: root, Steps: steps(text)}
}

// prices reads prices: the variants of each group and, behind them, its Price, with commas between the groups.
func prices(text string) []api.FamilyPrice {
	var l []api.FamilyPrice
	for x := range strings.SplitSeq(text, ",") {
		if n := numbers(x); len(n) > 0 {
			l = append(l, price(int64(n[len(n)-1]), n[:len(n)-1]...))
		}
	}
	return l
}

// price returns a group with its Price.
func price(price int64, songs ...int) api.FamilyPrice {
	return api.FamilyPrice{Songs: songs, Price: price}
}

// chapter returns the book F of the chapter.
func chapter() api.FamilyBook {
	return book(4, 0, "0 1 5, 0 2 4, 1 2 1, 2 1 2, 2 3 3, 1 3 4")
}

// full returns a book with as much of all as a book can have: each variant to the next one, and back, and again from the first one on.
func full() api.FamilyBook {
	b := api.FamilyBook{Songs: api.MaxFamilySongs, Root: api.MaxFamilySongs - 1}
	for len(b.Steps) < api.MaxFamilySteps {
		from := len(b.Steps) / 2 % (b.Songs - 1)
		s := api.FamilyStep{From: from, To: from + 1, Changes: api.MaxFamilyChanges}
		if len(b.Steps)%2 == 1 {
			s.From, s.To = s.To, s.From
		}
		b.Steps = append(b.Steps, s)
	}
	return b
}

// deep returns a book with as many groups as can be priced: two neighbours are closer to each other than to the next one, and all of them are far from Root.
func deep() api.FamilyBook {
	b := api.FamilyBook{Songs: api.MaxFamilySongs, Steps: steps("0 1 1000")}
	for song := 1; song < b.Songs-1; song++ {
		there := api.FamilyStep{From: song, To: song + 1, Changes: int64(song)}
		back := api.FamilyStep{From: song + 1, To: song, Changes: int64(song)}
		b.Steps = append(b.Steps, there, back)
	}
	return b
}

// with returns the book of the chapter with one step more.
func with(s api.FamilyStep) api.FamilyBook {
	b := chapter()
	b.Steps = append(b.Steps, s)
	return b
}

// errors returns the errors of all functions for a book, each other argument of which is wrong as well.
func errors(b api.FamilyBook) []api.Errno {
	_, c := family.CheckTree(b, make([]int, 40))
	_, d := family.Lost(b)
	_, _, e := family.Cheapest(b)
	_, f := family.Prices(b)
	_, g := family.CheckPrices(b, make([]api.FamilyPrice, 41))
	_, h := family.Most(b)
	_, i := family.Grades(b)
	return []api.Errno{family.CheckBook(b), c, d, e, f, g, h, i}
}

// P8.1: valid books, and the errors in their order, which all functions return before their own.
func TestBook(t *testing.T) {
	many := make([]api.FamilyStep, 201)
	for i, x := range []struct {
		b api.FamilyBook
		e api.Errno
	}{
		{chapter(), api.OK},
		{full(), api.OK},
		{deep(), api.OK},
		{book(1, 0, ""), api.OK},
		{book(16, 15, ""), api.OK},
		{book(16, 0, "0 15 0, 15 0 1000000, 15 0 1000000"), api.OK},
		{book(2, 1, "0 1 0, 0 1 0"), api.OK},
		{api.FamilyBook{}, api.ErrMany},
		{book(0, 0, "0 0 0"), api.ErrMany},
		{book(-1, 0, ""), api.ErrMany},
		{book(17, 0, ""), api.ErrMany},
		{book(math.MaxInt, 0, ""), api.ErrMany},
		{book(math.MinInt, 0, ""), api.ErrMany},
		{api.FamilyBook{Songs: 4, Steps: append(full().Steps, api.FamilyStep{To: 1})}, api.ErrMany},
		// ErrMany before ErrArg.
		{book(17, 17, "0 0 -1"), api.ErrMany},
		{book(0, -1, "0 0 -1"), api.ErrMany},
		{api.FamilyBook{Songs: 4, Root: 4, Steps: many}, api.ErrMany},
		{api.FamilyBook{Songs: 4, Steps: many}, api.ErrMany},
		{api.FamilyBook{Songs: 4, Steps: many[:200]}, api.ErrArg},
		{book(4, 4, "0 1 5"), api.ErrArg},
		{book(4, -1, "0 1 5"), api.ErrArg},
		{book(1, 1, ""), api.ErrArg},
		{book(16, 16, ""), api.ErrArg},
		{book(4, math.MaxInt, "0 1 5"), api.ErrArg},
		{book(4, math.MinInt, "0 1 5"), api.ErrArg},
		{book(1, 0, "0 0 0"), api.ErrArg},
		{book(1, 0, "0 1 0"), api.ErrArg},
		{with(api.FamilyStep{From: 0, To: 0, Changes: 5}), api.ErrArg},
		{with(api.FamilyStep{From: 3, To: 3, Changes: 5}), api.ErrArg},
		{with(api.FamilyStep{From: 4, To: 3, Changes: 5}), api.ErrArg},
		{with(api.FamilyStep{From: 3, To: 4, Changes: 5}), api.ErrArg},
		{with(api.FamilyStep{From: -1, To: 3, Changes: 5}), api.ErrArg},
		{with(api.FamilyStep{From: 3, To: -1, Changes: 5}), api.ErrArg},
		{with(api.FamilyStep{From: 4, To: 4, Changes: 5}), api.ErrArg},
		{with(api.FamilyStep{From: math.MinInt, To: 3, Changes: 5}), api.ErrArg},
		{with(api.FamilyStep{From: 3, To: math.MaxInt, Changes: 5}), api.ErrArg},
		{with(api.FamilyStep{From: 0, To: 3, Changes: -1}), api.ErrArg},
		{with(api.FamilyStep{From: 0, To: 3, Changes: 1000001}), api.ErrArg},
		{with(api.FamilyStep{From: 3, To: 0, Changes: 1000001}), api.ErrArg},
		{with(api.FamilyStep{From: 0, To: 3, Changes: math.MaxInt64}), api.ErrArg},
		{with(api.FamilyStep{From: 0, To: 3, Changes: math.MinInt64}), api.ErrArg},
		{with(api.FamilyStep{From: 0, To: 3, Changes: 1000000}), api.OK},
		{with(api.FamilyStep{From: 3, To: 0}), api.OK},
		{book(4, 0, "0 0 1, 0 1 1, 1 2 1, 2 3 1"), api.ErrArg},
		{book(4, 0, "0 1 1, 0 4 1, 1 2 1, 2 3 1"), api.ErrArg},
	} {
		if e := family.CheckBook(x.b); e != x.e {
			t.Error(i, e)
		}
		if x.e == api.OK {
			continue
		}
		if got := errors(x.b); !slices.Equal(got, slices.Repeat([]api.Errno{x.e}, 8)) {
			t.Error(i, got)
		}
	}
}

// P8.2: trees with their changes, and numbers that are none.
func TestTree(t *testing.T) {
	c := chapter()
	// The steps 0 to 3 go round, the steps 4 and 5 to Root.
	round := book(4, 3, "0 1 1, 1 2 2, 2 0 4, 3 0 8, 0 3 16, 2 3 32, 3 2 0")
	for i, x := range []struct {
		b       api.FamilyBook
		tree    string
		changes int64
		e       api.Errno
	}{
		{c, "-1 0 2 4", 9, api.OK},
		{c, "-1 3 1 5", 10, api.OK},
		{c, "-1 0 1 4", 12, api.OK},
		{c, "-1 0 1 5", 13, api.OK},
		{c, "-1 3 1 4", 9, api.OK},
		{round, "3 0 1 -1", 11, api.OK},
		{round, "2 0 6 -1", 5, api.OK},
		{round, "3 0 6 -1", 9, api.OK},
		{book(1, 0, ""), "-1", 0, api.OK},
		{book(2, 0, "0 1 0, 0 1 1000000"), "-1 1", 1000000, api.OK},
		{book(2, 0, "0 1 0, 0 1 1000000"), "-1 0", 0, api.OK},
		{book(2, 1, "0 1 0, 1 0 7"), "1 -1", 7, api.OK},
		{c, "-1 3 2 4", 0, api.ErrRule},
		{c, "-1 3 2 5", 0, api.ErrRule},
		{round, "2 0 1 -1", 0, api.ErrRule},
		{book(3, 0, "1 2 5, 2 1 5"), "-1 1 0", 0, api.ErrRule},
		// The way back ends in a circle that does not have the variant.
		{book(4, 0, "1 2 5, 2 1 5, 2 3 5, 0 1 5"), "-1 1 0 2", 0, api.ErrRule},
		{book(4, 3, "1 2 5, 2 1 5, 2 0 5"), "2 1 0 -1", 0, api.ErrRule},
		{c, "0 0 2 4", 0, api.ErrRange},
		{c, "-2 0 2 4", 0, api.ErrRange},
		{c, "6 0 2 4", 0, api.ErrRange},
		{c, "-1 -1 2 4", 0, api.ErrRange},
		{c, "-1 0 2 -1", 0, api.ErrRange},
		{c, "-1 0 2 6", 0, api.ErrRange},
		{c, "-1 0 2 -2", 0, api.ErrRange},
		{c, "-1 1 2 4", 0, api.ErrRange},
		{c, "-1 0 3 4", 0, api.ErrRange},
		{c, "-1 0 0 4", 0, api.ErrRange},
		{c, "-1 0 2 9223372036854775807", 0, api.ErrRange},
		{c, "-1 0 2 -9223372036854775808", 0, api.ErrRange},
		// A step that goes to Root is no number of Root, and none of a variant.
		{round, "3 0 1 4", 0, api.ErrRange},
		{round, "3 0 5 -1", 0, api.ErrRange},
		{round, "-1 0 1 -1", 0, api.ErrRange},
		{round, "7 0 1 -1", 0, api.ErrRange},
		{book(1, 0, ""), "0", 0, api.ErrRange},
		{book(2, 1, ""), "-1 -1", 0, api.ErrRange},
		// ErrRange before ErrRule, ErrEqual before both.
		{c, "-1 3 2 0", 0, api.ErrRange},
		{c, "0 3 2 4", 0, api.ErrRange},
		{c, "-1 3 2", 0, api.ErrEqual},
		{c, "", 0, api.ErrEqual},
		{c, "-1 0 2", 0, api.ErrEqual},
		{c, "-1 0 2 4 4", 0, api.ErrEqual},
		{c, "0 0 0 0 0", 0, api.ErrEqual},
		{book(1, 0, ""), "", 0, api.ErrEqual},
		{book(1, 0, ""), "-1 -1", 0, api.ErrEqual},
	} {
		if changes, e := family.CheckTree(x.b, numbers(x.tree)); changes != x.changes || e != x.e {
			t.Error(i, changes, e)
		}
	}
	if changes, e := family.CheckTree(c, make([]int, 100000)); changes != 0 || e != api.ErrEqual {
		t.Error(changes, e)
	}
	tree := []int{0, 2, 4, 6, 8, 10, 12, 14, 16, 18, 20, 22, 24, 26, 28, -1}
	for i := range tree[:15] {
		tree[i]++
	}
	if changes, e := family.CheckTree(full(), tree); changes != 15000000 || e != api.OK {
		t.Error(changes, e)
	}
}

// P8.5: right prices, and what is none.
func TestCheckPrices(t *testing.T) {
	c := chapter()
	root := book(4, 2, "2 0 7, 0 1 1, 1 0 1, 1 3 4, 3 2 0, 0 2 0")
	lost := book(3, 0, "1 2 5, 0 1 3")
	far := book(3, 0, "2 0 5")
	top := strconv.Itoa(api.MaxNumber)
	for i, x := range []struct {
		b     api.FamilyBook
		text  string
		bound int64
		e     api.Errno
	}{
		{c, "1 2, 2 1, 3 3, 1 2 3", 9, api.OK},
		{c, "", 0, api.OK},
		{c, "1 2", 2, api.OK},
		{c, "1 2 3 3", 3, api.OK},
		{c, "1 2 3 4", 4, api.OK},
		{c, "1 2 3 1, 1 2, 2 1, 3 3, 1 2 2", 9, api.OK},
		{c, "1 0, 2 0, 3 0, 1 2 0, 1 3 0, 2 3 0, 1 2 3 0", 0, api.OK},
		// A group may be there twice.
		{c, "1 1, 1 1, 2 1, 3 1, 3 1, 3 1, 1 2 3", 9, api.OK},
		{c, "1 1, 1 1, 2 1, 3 1, 3 1, 3 1, 1 2 3, 1 0", 9, api.OK},
		{c, "1 3 2, 2 1, 3 1", 4, api.OK},
		{c, "1 2, 2 1, 3 3, 1 2 4", 0, api.ErrSum},
		{c, "1 3", 0, api.ErrSum},
		{c, "2 2", 0, api.ErrSum},
		{c, "3 4", 0, api.ErrSum},
		{c, "1 1, 1 1, 1 1", 0, api.ErrSum},
		{c, "1 2 3 5", 0, api.ErrSum},
		{c, "1 2 5", 0, api.ErrSum},
		{c, "1 3 2, 2 2", 0, api.ErrSum},
		{c, "1 3 2, 1 1", 0, api.ErrSum},
		{c, "1 " + top, 0, api.ErrSum},
		{c, "3 0, 2 0, 1 " + top, 0, api.ErrSum},
		{root, "0 1, 1 1, 3 4, 0 1 6", 12, api.OK},
		{root, "0 1, 1 1, 3 4, 0 1 3 6", 12, api.OK},
		{root, "0 1, 1 1, 3 4, 0 1 7", 0, api.ErrSum},
		{root, "0 1 3 7", 7, api.OK},
		{root, "0 1 3 8", 0, api.ErrSum},
		// No step goes into a group: its Price may be anything.
		{lost, "1 3, 2 5", 8, api.OK},
		{lost, "1 2 3, 2 5", 8, api.OK},
		{book(3, 0, "1 2 5"), "1 " + top + ", 2 5", api.MaxNumber + 5, api.OK},
		{book(3, 0, "1 2 5"), "1 2 " + top + ", 1 " + top + ", 1 2 " + top, 3 * api.MaxNumber, api.OK},
		{far, "1 2 " + top, api.MaxNumber, api.OK},
		{book(1, 0, ""), "", 0, api.OK},
		// Groups that are none.
		{c, "0 1", 0, api.ErrRange},
		{c, "0 1 1", 0, api.ErrRange},
		{c, "0 0", 0, api.ErrRange},
		{c, "1 1, 0 1 2 3 0", 0, api.ErrRange},
		{c, "7", 0, api.ErrRange},
		{c, "0", 0, api.ErrRange},
		{c, "4 1", 0, api.ErrRange},
		{c, "3 4 1", 0, api.ErrRange},
		{c, "-1 1", 0, api.ErrRange},
		{c, "-1 2 1", 0, api.ErrRange},
		{c, "1 1 1", 0, api.ErrRange},
		{c, "2 1 1", 0, api.ErrRange},
		{c, "1 3 2 1", 0, api.ErrRange},
		{c, "1 2 2 1", 0, api.ErrRange},
		{c, "1 -1", 0, api.ErrRange},
		{c, "1 1099511627777", 0, api.ErrRange},
		{c, "1 9223372036854775807", 0, api.ErrRange},
		{c, "1 -9223372036854775808", 0, api.ErrRange},
		{c, "-9223372036854775808 9223372036854775807 1", 0, api.ErrRange},
		{root, "2 1", 0, api.ErrRange},
		{root, "0 2 1", 0, api.ErrRange},
		{book(1, 0, ""), "0 1", 0, api.ErrRange},
		{book(1, 0, ""), "1 1", 0, api.ErrRange},
		// ErrRange before ErrSum.
		{c, "1 100, 0 1", 0, api.ErrRange},
		{c, "1 100, 1 -1", 0, api.ErrRange},
	} {
		if bound, e := family.CheckPrices(x.b, prices(x.text)); bound != x.bound || e != x.e {
			t.Error(i, bound, e)
		}
	}
	for i, x := range []struct {
		count int
		p     api.FamilyPrice
		bound int64
		e     api.Errno
	}{
		{40, price(0, 3), 0, api.OK},
		{41, price(0, 3), 0, api.ErrMany},
		{41, price(-1), 0, api.ErrMany},
		{40, price(0), 0, api.ErrRange},
		{40, price(api.MaxNumber, 3), 0, api.ErrSum},
		{40, price(1, 1, 2, 3), 0, api.ErrSum},
		{100000, price(0, 3), 0, api.ErrMany},
		{1, price(1, make([]int, 100000)...), 0, api.ErrRange},
		{2, price(1, slices.Repeat([]int{1, 2, 3}, 40000)...), 0, api.ErrRange},
	} {
		l := slices.Repeat([]api.FamilyPrice{x.p}, x.count)
		if bound, e := family.CheckPrices(c, l); bound != x.bound || e != x.e {
			t.Error(i, bound, e)
		}
	}
	most := slices.Repeat([]api.FamilyPrice{price(api.MaxNumber, 1, 2)}, 40)
	if bound, e := family.CheckPrices(far, most); bound != 40*api.MaxNumber || e != api.OK {
		t.Error(bound, e)
	}
}
