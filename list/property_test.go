package list_test

import (
	"math/rand/v2"
	"slices"
	"testing"

	"mandrel/api"
	"mandrel/list"
)

// random returns a random sheet with up to so many items in each list and so many links, some of which are known.
func random(r *rand.Rand, most, count int) api.ListSheet {
	s := api.ListSheet{Left: 1 + r.IntN(most), Right: 1 + r.IntN(most)}
	l := grid(s.Left, s.Right)
	r.Shuffle(len(l), func(i, k int) { l[i], l[k] = l[k], l[i] })
	s.Links = l[:r.IntN(min(count, len(l))+1)]
	for name := range s.Links {
		if r.IntN(8) == 0 && !slices.ContainsFunc(s.Known, func(k int) bool { return beside(s, name, k) }) {
			s.Known = append(s.Known, name)
		}
	}
	return s
}

// beside tells whether two links have an item in common.
func beside(s api.ListSheet, i, k int) bool {
	return s.Links[i].Left == s.Links[k].Left || s.Links[i].Right == s.Links[k].Right
}

// joinings returns all joinings of a sheet, by trying out all lists of links that have no items in common.
func joinings(s api.ListSheet) [][]int {
	lists := [][]int{nil}
	for name := range s.Links {
		for _, l := range lists {
			if !slices.ContainsFunc(l, func(k int) bool { return beside(s, name, k) }) {
				lists = append(lists, append(slices.Clone(l), name))
			}
		}
	}
	return slices.DeleteFunc(lists, func(l []int) bool {
		return slices.ContainsFunc(s.Known, func(k int) bool { return !slices.Contains(l, k) })
	})
}

// greatest returns all greatest joinings of a sheet.
func greatest(s api.ListSheet) [][]int {
	all := joinings(s)
	size := 0
	for _, l := range all {
		size = max(size, len(l))
	}
	return slices.DeleteFunc(all, func(l []int) bool { return len(l) < size })
}

// kindOf returns the kind of what is in some of all greatest joinings.
func kindOf(all [][]int, in func(l []int) bool) int {
	count := 0
	for _, l := range all {
		if in(l) {
			count++
		}
	}
	switch count {
	case 0:
		return api.ListNever
	case len(all):
		return api.ListAlways
	}
	return api.ListMay
}

// kinds returns the kinds of all links, if these are all greatest joinings.
func kinds(s api.ListSheet, all [][]int) []int {
	var of []int
	for name := range s.Links {
		of = append(of, kindOf(all, func(l []int) bool { return slices.Contains(l, name) }))
	}
	return of
}

// itemKinds returns the kinds of all items of a list, if these are all greatest joinings.
func itemKinds(s api.ListSheet, all [][]int, right bool) []int {
	var of []int
	count := s.Left
	if right {
		count = s.Right
	}
	for item := range count {
		of = append(of, kindOf(all, func(l []int) bool {
			return slices.ContainsFunc(l, func(name int) bool { return has(s.Links[name], right, item) })
		}))
	}
	return of
}

// has tells whether a link has an item of a list.
func has(link api.ListLink, right bool, item int) bool {
	return right && link.Right == item || !right && link.Left == item
}

// yes returns the sheet with one more link known.
func yes(s api.ListSheet, name int) api.ListSheet {
	s.Known = append(slices.Clone(s.Known), name)
	slices.Sort(s.Known)
	return s
}

// no returns the sheet without the links that are refused, none of which is known.
func no(s api.ListSheet, refused func(name int) bool) api.ListSheet {
	out := api.ListSheet{Left: s.Left, Right: s.Right}
	for name, link := range s.Links {
		if refused(name) {
			continue
		}
		if slices.Contains(s.Known, name) {
			out.Known = append(out.Known, len(out.Links))
		}
		out.Links = append(out.Links, link)
	}
	return out
}

// without returns the sheet without a link.
func without(s api.ListSheet, name int) api.ListSheet {
	return no(s, func(n int) bool { return n == name })
}

// doubts returns how many of the kinds are ListMay.
func doubts(of []int) int {
	count := 0
	for _, kind := range of {
		if kind == api.ListMay {
			count++
		}
	}
	return count
}

// size returns how many links a greatest joining has, as Greatest finds it, with its proof.
func size(t *testing.T, s api.ListSheet) int {
	t.Helper()
	joining, e := list.Greatest(s)
	if e != api.OK {
		t.Fatal(s, joining, e)
	}
	checkProof(t, s, len(joining))
	return len(joining)
}

// kindsOf returns the kinds of all links, as Kinds finds them.
func kindsOf(t *testing.T, s api.ListSheet) []int {
	t.Helper()
	of, e := list.Kinds(s)
	if len(of) != len(s.Links) || e != api.OK {
		t.Fatal(s, of, e)
	}
	return of
}

// itemsOf returns the kinds of all items of a list, as Items finds them.
func itemsOf(t *testing.T, s api.ListSheet, right bool) []int {
	t.Helper()
	of, e := list.Items(s, right)
	if e != api.OK {
		t.Fatal(s, of, e)
	}
	return of
}

// P5.3, P5.4, P5.5, P5.8: what is told of small sheets is what all their greatest joinings say.
func TestSmall(t *testing.T) {
	r := rand.New(rand.NewPCG(5, 1))
	seen, known := map[int]int{}, 0
	for range 4000 {
		s := random(r, 5, 11)
		all := greatest(s)
		checkProof(t, s, len(all[0]))
		want := kinds(s, all)
		if got := kindsOf(t, s); !slices.Equal(got, want) {
			t.Fatal(s, got, want)
		}
		for _, right := range []bool{false, true} {
			if got, want := itemsOf(t, s, right), itemKinds(s, all, right); !slices.Equal(got, want) {
				t.Fatal(s, right, got, want)
			}
		}
		for _, kind := range want {
			seen[kind]++
		}
		known += min(1, len(s.Known))
	}
	if len(seen) != 3 || min(seen[api.ListNever], seen[api.ListMay], seen[api.ListAlways], known) < 1000 {
		t.Error(seen, known)
	}
}

// asked returns what Ask has to return, by all greatest joinings after both answers.
func asked(s api.ListSheet) (name, rest int, e api.Errno) {
	e = api.ErrNone
	for n, kind := range kinds(s, greatest(s)) {
		if kind != api.ListMay {
			continue
		}
		a, b := yes(s, n), without(s, n)
		left := max(doubts(kinds(a, greatest(a))), doubts(kinds(b, greatest(b))))
		if e != api.OK || left < rest {
			name, rest, e = n, left, api.OK
		}
	}
	return name, rest, e
}

// P5.6: Ask returns the first link after which least is left.
func TestAskOfAll(t *testing.T) {
	r := rand.New(rand.NewPCG(5, 2))
	seen := map[int]int{}
	for range 1000 {
		s := random(r, 5, 9)
		name, rest, e := asked(s)
		checkAsk(t, s, name, rest, e)
		if e == api.OK {
			seen[name]++
		}
	}
	if len(seen) < 4 {
		t.Error(seen)
	}
}

// some returns a random list of numbers, most of which are indexes of a list with so many elements.
func some(r *rand.Rand, count int) []int {
	var l []int
	for range r.IntN(count + 1) {
		l = append(l, r.IntN(count+1)-r.IntN(20)/19)
	}
	if r.IntN(4) > 0 {
		slices.Sort(l)
		l = slices.Compact(l)
	}
	if r.IntN(4) > 0 {
		l = slices.DeleteFunc(l, func(n int) bool { return n < 0 || n >= count })
	}
	return l
}

// rising tells whether numbers strictly increase, and are indexes of a list with so many elements.
func rising(l []int, count int) bool {
	for i, n := range l {
		if n < 0 || n >= count || i > 0 && l[i-1] >= n {
			return false
		}
	}
	return true
}

// P5.1, P5.2, P5.4, P5.7: any lists of names and of items, and no joining is greater than a cover.
func TestLists(t *testing.T) {
	r := rand.New(rand.NewPCG(5, 3))
	rules, sizes := map[api.Errno]int{}, map[api.Errno]int{}
	for range 20000 {
		s := random(r, 4, 7)
		all := joinings(s)
		l := some(r, len(s.Links))
		want := api.OK
		switch {
		case !rising(l, len(s.Links)):
			want = api.ErrRange
		case !slices.ContainsFunc(all, func(x []int) bool { return slices.Equal(l, x) }):
			want = api.ErrRule
		}
		rules[want]++
		if e := list.CheckJoining(s, l); e != want {
			t.Fatal(s, l, e, want)
		}
		c := api.ListCover{Left: some(r, s.Left), Right: some(r, s.Right)}
		want, most := checkCover(s, c)
		sizes[want]++
		n, e := list.CheckCover(s, c)
		if n != most || e != want || e == api.OK && n < len(greatest(s)[0]) {
			t.Fatal(s, c, n, e, want, most)
		}
		s.Known = l
		want = api.OK
		if !rising(l, len(s.Links)) || len(joinings(s)) == 0 {
			want = api.ErrRule
		}
		if e := list.CheckSheet(s); e != want {
			t.Fatal(s, e, want)
		}
	}
	if len(rules) != 3 || len(sizes) != 3 {
		t.Error(rules, sizes)
	}
}

// checkCover is what CheckCover has to return.
func checkCover(s api.ListSheet, c api.ListCover) (api.Errno, int) {
	if !rising(c.Left, s.Left) || !rising(c.Right, s.Right) {
		return api.ErrRange, 0
	}
	for name, link := range s.Links {
		free := !slices.ContainsFunc(s.Known, func(k int) bool { return beside(s, name, k) })
		if free && !slices.Contains(c.Left, link.Left) && !slices.Contains(c.Right, link.Right) {
			return api.ErrSum, 0
		}
	}
	return api.OK, len(c.Left) + len(c.Right) + len(s.Known)
}

// P5.3, P5.4, P5.5, P5.6, P5.7, P5.8, P5.11, P5.12: on sheets of all sizes, kinds are those that answers about links prove.
func TestLarge(t *testing.T) {
	r := rand.New(rand.NewPCG(5, 4))
	for range 200 {
		s := random(r, api.MaxListItems, api.MaxListLinks)
		if r.IntN(2) == 0 {
			s.Known = nil
		}
		n, of := size(t, s), kindsOf(t, s)
		joining, _ := list.Greatest(s)
		for name, kind := range of {
			free := !slices.ContainsFunc(s.Known, func(k int) bool { return k != name && beside(s, name, k) })
			known := slices.Contains(s.Known, name)
			with := free && (known || size(t, yes(s, name)) == n)
			less := known || size(t, without(s, name)) < n
			if with != (kind != api.ListNever) || less != (kind == api.ListAlways) {
				t.Fatal(s, name, kind, with, less)
			}
			if in := slices.Contains(joining, name); in && kind == api.ListNever || !in && kind == api.ListAlways {
				t.Fatal(s, name, kind, joining)
			}
			if kind == api.ListAlways && !known && !slices.Equal(kindsOf(t, yes(s, name)), of) {
				t.Fatal(s, name, of)
			}
		}
		checkItems(t, s, n, of, false)
		checkItems(t, s, n, of, true)
	}
}

// checkItems checks the kinds of the items of a list, of a sheet whose greatest joining has n links, with these kinds.
func checkItems(t *testing.T, s api.ListSheet, n int, of []int, right bool) {
	t.Helper()
	for item, kind := range itemsOf(t, s, right) {
		always, may, known := false, false, false
		for name, link := range s.Links {
			if has(link, right, item) {
				always = always || of[name] == api.ListAlways
				may = may || of[name] != api.ListNever
				known = known || slices.Contains(s.Known, name)
			}
		}
		less := known || size(t, no(s, func(name int) bool { return has(s.Links[name], right, item) })) < n
		if less != (kind == api.ListAlways) || always && !less || may != (kind != api.ListNever) {
			t.Fatal(s, right, item, kind, always, may, less)
		}
	}
}

// P5.6: on sheets of all sizes, what Ask tells is what the kinds after both answers say.
func TestAskOfLarge(t *testing.T) {
	r := rand.New(rand.NewPCG(5, 5))
	asked := 0
	for range 60 {
		s := random(r, api.MaxListItems, api.MaxListLinks)
		name, rest, e := 0, 0, api.ErrNone
		for n, kind := range kindsOf(t, s) {
			if kind != api.ListMay {
				continue
			}
			left := max(doubts(kindsOf(t, yes(s, n))), doubts(kindsOf(t, without(s, n))))
			if e != api.OK || left < rest {
				name, rest, e = n, left, api.OK
			}
		}
		checkAsk(t, s, name, rest, e)
		if e == api.OK {
			asked++
		}
	}
	if asked < 20 {
		t.Error(asked)
	}
}

// shuffled returns a sheet with its links, and its items, in another order, and for each index of a link, or of an item, where it is then.
func shuffled(r *rand.Rand, s api.ListSheet) (out api.ListSheet, names, lefts, rights []int) {
	names, lefts, rights = r.Perm(len(s.Links)), r.Perm(s.Left), r.Perm(s.Right)
	out = api.ListSheet{Left: s.Left, Right: s.Right, Links: make([]api.ListLink, len(s.Links))}
	for name, link := range s.Links {
		out.Links[names[name]] = api.ListLink{Left: lefts[link.Left], Right: rights[link.Right]}
	}
	for _, name := range s.Known {
		out.Known = append(out.Known, names[name])
	}
	slices.Sort(out.Known)
	return out, names, lefts, rights
}

// taken returns the elements of a list that are now at these places.
func taken(l, places []int) []int {
	var out []int
	for _, i := range places {
		out = append(out, l[i])
	}
	return out
}

// P5.9, G5: neither the order of links and items nor that of both lists matters.
func TestOrder(t *testing.T) {
	r := rand.New(rand.NewPCG(5, 6))
	for range 500 {
		s := random(r, api.MaxListItems, api.MaxListLinks)
		n, of, left, right := size(t, s), kindsOf(t, s), itemsOf(t, s, false), itemsOf(t, s, true)
		other, names, lefts, rights := shuffled(r, s)
		if got := size(t, other); got != n {
			t.Fatal(s, other, n, got)
		}
		if got := taken(kindsOf(t, other), names); !slices.Equal(got, of) {
			t.Fatal(s, other, of, got)
		}
		if got := taken(itemsOf(t, other, false), lefts); !slices.Equal(got, left) {
			t.Fatal(s, other, left, got)
		}
		if got := taken(itemsOf(t, other, true), rights); !slices.Equal(got, right) {
			t.Fatal(s, other, right, got)
		}
		turned := api.ListSheet{Left: s.Right, Right: s.Left, Known: s.Known}
		for _, link := range s.Links {
			turned.Links = append(turned.Links, api.ListLink{Left: link.Right, Right: link.Left})
		}
		if got := kindsOf(t, turned); size(t, turned) != n || !slices.Equal(got, of) {
			t.Fatal(s, of, got)
		}
		if got := itemsOf(t, turned, false); !slices.Equal(got, right) || !slices.Equal(itemsOf(t, turned, true), left) {
			t.Fatal(s, left, right, got)
		}
	}
}

// P5.10: with one link more, a greatest joining has as many links, or one more.
func TestMore(t *testing.T) {
	r := rand.New(rand.NewPCG(5, 7))
	seen := map[int]int{}
	for range 1500 {
		s := random(r, api.MaxListItems, api.MaxListLinks-1)
		link := api.ListLink{Left: r.IntN(s.Left), Right: r.IntN(s.Right)}
		if slices.Contains(s.Links, link) {
			continue
		}
		n := size(t, s)
		s.Links = append(slices.Clone(s.Links), link)
		seen[size(t, s)-n]++
	}
	if len(seen) != 2 || min(seen[0], seen[1]) < 100 {
		t.Error(seen)
	}
}
