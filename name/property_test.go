package name_test

import (
	"math/rand/v2"
	"slices"
	"testing"

	"mandrel/api"
	"mandrel/name"
)

// sizes is how large a random list can be.
type sizes struct {
	names, links, ends int
	trust              int64
}

var (
	small = sizes{7, 12, 3, 4}
	large = sizes{api.MaxNameNames, api.MaxNameLinks, api.MaxNameEnds, api.MaxNameTrust}
)

// random returns a random list.
func random(r *rand.Rand, of sizes) api.NameList {
	l := api.NameList{Names: 2 + r.IntN(of.names-1)}
	for range r.IntN(of.links + 1) {
		l.Links = append(l.Links, someLink(r, l.Names, of.trust))
	}
	names := r.Perm(l.Names)
	left := 1 + r.IntN(min(of.ends, l.Names-1))
	right := 1 + r.IntN(min(of.ends, l.Names-left))
	l.Left, l.Right = names[:left:left], names[left:left+right]
	slices.Sort(l.Left)
	slices.Sort(l.Right)
	return l
}

// someLink returns a random link.
func someLink(r *rand.Rand, names int, trust int64) api.NameLink {
	one, on := r.IntN(names), 1+r.IntN(names-1)
	return api.NameLink{One: one, Two: (one + on) % names, Trust: 1 + r.Int64N(trust)}
}

// some returns a random strictly increasing list of numbers below count, each of which is there one time of so many.
func some(r *rand.Rand, count, times int) []int {
	return slices.DeleteFunc(upTo(count), func(int) bool { return r.IntN(times) > 0 })
}

// spoilt returns a list that may be spoilt: with a number more, without order, or with one twice.
func spoilt(r *rand.Rand, l []int, count int) []int {
	switch r.IntN(8) {
	case 0:
		return append(l, count)
	case 1:
		return append([]int{-1}, l...)
	case 2:
		slices.Reverse(l)
	}
	return l
}

// sidesOf returns all sides of a list, by trying out all lists of names.
func sidesOf(l api.NameList) [][]int {
	var sides [][]int
	for bits := range 1 << l.Names {
		side := slices.DeleteFunc(upTo(l.Names), func(n int) bool { return bits>>n&1 == 0 })
		if isSide(l, side) {
			sides = append(sides, side)
		}
	}
	return sides
}

// isSide tells whether a list of names has all of Left and none of Right.
func isSide(l api.NameList, side []int) bool {
	has := func(n int) bool { return slices.Contains(side, n) }
	lacks := func(n int) bool { return !has(n) }
	return !slices.ContainsFunc(l.Left, lacks) && !slices.ContainsFunc(l.Right, has)
}

// cutOf returns the links that a side cuts, and what it costs.
func cutOf(l api.NameList, side []int) (cut []int, cost int64) {
	for link, x := range l.Links {
		ends := 0
		for _, n := range side {
			if n == x.One || n == x.Two {
				ends++
			}
		}
		if ends == 1 {
			cut = append(cut, link)
			cost += x.Trust
		}
	}
	return cut, cost
}

// cheapest returns all cheapest sides of a list, and what they cost.
func cheapest(l api.NameList) ([][]int, int64) {
	var best [][]int
	var least int64
	for _, side := range sidesOf(l) {
		_, cost := cutOf(l, side)
		if best == nil || cost < least {
			best, least = nil, cost
		}
		if cost == least {
			best = append(best, side)
		}
	}
	return best, least
}

// kinds returns for each name 1 if it is in all of some sides, -1 if it is in none of them, otherwise 0.
func kinds(l api.NameList, sides [][]int) []int {
	var of []int
	for n := range l.Names {
		count := 0
		for _, side := range sides {
			if slices.Contains(side, n) {
				count++
			}
		}
		switch count {
		case 0:
			of = append(of, -1)
		case len(sides):
			of = append(of, 1)
		default:
			of = append(of, 0)
		}
	}
	return of
}

// having returns the names that have a kind.
func having(of []int, kind int) []int {
	return slices.DeleteFunc(upTo(len(of)), func(n int) bool { return of[n] != kind })
}

// leastOf returns what Least finds.
func leastOf(t *testing.T, l api.NameList) ([]int, int64) {
	t.Helper()
	side, cost, e := name.Least(l)
	if e != api.OK {
		t.Fatal(l, side, cost, e)
	}
	return side, cost
}

// kindsOf returns what Sides finds.
func kindsOf(t *testing.T, l api.NameList) []int {
	t.Helper()
	of, e := name.Sides(l)
	if len(of) != l.Names || e != api.OK {
		t.Fatal(l, of, e)
	}
	return of
}

// P6.5, P6.6, P6.7, P6.8: what is told of small lists is what all their cheapest sides say.
func TestSmall(t *testing.T) {
	r := rand.New(rand.NewPCG(6, 1))
	seen, several := map[int]int{}, 0
	for range 6000 {
		l := random(r, small)
		sides, want := cheapest(l)
		of := kinds(l, sides)
		side, cost := leastOf(t, l)
		if !slices.Equal(side, having(of, 1)) || cost != want {
			t.Fatal(l, side, cost, of, want)
		}
		if got := kindsOf(t, l); !slices.Equal(got, of) {
			t.Fatal(l, got, of)
		}
		if great := greatOf(t, l); great != want {
			t.Fatal(l, great, want)
		}
		for _, kind := range of {
			seen[kind]++
		}
		several += min(1, len(sides)-1)
	}
	if len(seen) != 3 || min(seen[0], seen[1], seen[-1], several) < 1000 {
		t.Error(seen, several)
	}
}

// P6.10: what two cheapest sides have in common, and what one of them has, are cheapest sides.
func TestCommon(t *testing.T) {
	r := rand.New(rand.NewPCG(6, 2))
	pairs := 0
	for range 1500 {
		l := random(r, small)
		sides, want := cheapest(l)
		for i, a := range sides[:min(len(sides), 12)] {
			for _, b := range sides[:i] {
				common := slices.DeleteFunc(slices.Clone(a), func(n int) bool { return !slices.Contains(b, n) })
				union := slices.Concat(a, b)
				slices.Sort(union)
				for _, side := range [][]int{common, slices.Compact(union)} {
					if _, cost, e := name.Cut(l, side); cost != want || e != api.OK {
						t.Fatal(l, a, b, side, cost, e)
					}
				}
				pairs++
			}
		}
	}
	if pairs < 1000 {
		t.Error(pairs)
	}
}

// P6.4, P6.8, P6.9: any lists of names as sides; no flow is greater than what one costs, and nothing is joined when its links are dropped.
func TestSides(t *testing.T) {
	r := rand.New(rand.NewPCG(6, 3))
	seen := map[api.Errno]int{}
	for range 20000 {
		l := random(r, small)
		side := some(r, l.Names, 2)
		if r.IntN(3) == 0 {
			all := sidesOf(l)
			side = all[r.IntN(len(all))]
		}
		side = spoilt(r, side, l.Names)
		want := api.OK
		switch {
		case !rising(side, l.Names):
			want = api.ErrRange
		case !isSide(l, side):
			want = api.ErrRule
		}
		seen[want]++
		cut, cost, e := name.Cut(l, side)
		if e != want {
			t.Fatal(l, side, e, want)
		}
		if e != api.OK {
			continue
		}
		if links, n := cutOf(l, side); !slices.Equal(cut, links) || cost != n {
			t.Fatal(l, side, cut, cost)
		}
		if great := greatOf(t, l); great > cost {
			t.Fatal(l, great, side, cost)
		}
		checkParted(t, l, cut)
	}
	if len(seen) != 3 || min(seen[api.OK], seen[api.ErrRange], seen[api.ErrRule]) < 1000 {
		t.Error(seen)
	}
}

// checkParted checks that no name of Left is joined with one of Right without a drop.
func checkParted(t *testing.T, l api.NameList, drop []int) {
	t.Helper()
	if chain, e := name.Chain(l, drop); chain != nil || e != api.ErrNone {
		t.Fatal(l, drop, chain, e)
	}
	for _, group := range groupsOf(t, l, drop) {
		has := func(n int) bool { return slices.Contains(group, n) }
		if slices.ContainsFunc(l.Left, has) && slices.ContainsFunc(l.Right, has) {
			t.Fatal(l, drop, group)
		}
	}
}

// rising tells whether numbers strictly increase, and are from 0 to count - 1.
func rising(l []int, count int) bool {
	for i, n := range l {
		if n < 0 || n >= count || i > 0 && l[i-1] >= n {
			return false
		}
	}
	return true
}

// groupsOf returns what Groups finds.
func groupsOf(t *testing.T, l api.NameList, drop []int) [][]int {
	t.Helper()
	groups, e := name.Groups(l, drop)
	if e != api.OK {
		t.Fatal(l, drop, groups, e)
	}
	return groups
}

// joined returns for each name the least one that is joined with it without a drop.
func joined(l api.NameList, drop []int) []int {
	of := upTo(l.Names)
	for range l.Names {
		for link, x := range l.Links {
			if !slices.Contains(drop, link) {
				least := min(of[x.One], of[x.Two])
				of[x.One], of[x.Two] = least, least
			}
		}
	}
	return of
}

// P6.2, P6.3, P6.9: groups and chains of lists of all sizes, without any drop.
func TestJoined(t *testing.T) {
	r := rand.New(rand.NewPCG(6, 4))
	seen, bad := map[bool]int{}, 0
	for i := range 6000 {
		l := random(r, []sizes{small, large}[i%2])
		drop := spoilt(r, some(r, len(l.Links), 1+r.IntN(3)), len(l.Links))
		if !rising(drop, len(l.Links)) {
			if _, e := name.Groups(l, drop); e != api.ErrRange {
				t.Fatal(l, drop, e)
			}
			bad++
			continue
		}
		of := joined(l, drop)
		var want [][]int
		for n := range l.Names {
			if of[n] == n {
				want = append(want, having(of, n))
			}
		}
		if got := groupsOf(t, l, drop); !slices.EqualFunc(got, want, slices.Equal[[]int]) {
			t.Fatal(l, drop, got, want)
		}
		some := slices.ContainsFunc(l.Left, func(n int) bool {
			return slices.ContainsFunc(l.Right, func(m int) bool { return of[n] == of[m] })
		})
		seen[some]++
		checkChain(t, l, drop, some)
	}
	if min(seen[true], seen[false], bad) < 500 {
		t.Error(seen, bad)
	}
}

// checkChain checks that Chain finds a chain just if there is some.
func checkChain(t *testing.T, l api.NameList, drop []int, some bool) {
	t.Helper()
	chain, e := name.Chain(l, drop)
	if !some {
		if chain != nil || e != api.ErrNone {
			t.Fatal(l, drop, chain, e)
		}
		return
	}
	if f := name.CheckChain(l, drop, chain); e != api.OK || f != api.OK || !isChain(l, drop, chain) {
		t.Fatal(l, drop, chain, e, f)
	}
}

// isChain tells whether names are a chain without a drop.
func isChain(l api.NameList, drop, chain []int) bool {
	for i := 1; i < len(chain); i++ {
		ends := [2]int{chain[i-1], chain[i]}
		found := false
		for link, x := range l.Links {
			is := ends == [2]int{x.One, x.Two} || ends == [2]int{x.Two, x.One}
			found = found || is && !slices.Contains(drop, link)
		}
		if !found {
			return false
		}
	}
	return slices.Contains(l.Left, chain[0]) && slices.Contains(l.Right, chain[len(chain)-1])
}

// P6.3: any lists of names as chains, most of which go along links.
func TestChains(t *testing.T) {
	r := rand.New(rand.NewPCG(6, 5))
	seen := map[api.Errno]int{}
	for range 20000 {
		l := random(r, small)
		drop := some(r, len(l.Links), 1+r.IntN(9))
		chain := walk(r, l)
		want := api.OK
		switch {
		case len(chain) < 2 || len(chain) > 40:
			want = api.ErrMany
		case slices.Min(chain) < 0 || slices.Max(chain) >= l.Names:
			want = api.ErrRange
		case !isChain(l, drop, chain):
			want = api.ErrSum
		}
		seen[want]++
		if e := name.CheckChain(l, drop, chain); e != want {
			t.Fatal(l, drop, chain, e, want)
		}
	}
	if len(seen) != 4 || min(seen[api.OK], seen[api.ErrMany], seen[api.ErrRange], seen[api.ErrSum]) < 500 {
		t.Error(seen)
	}
}

// walk returns names of which most are beside each other, from one of Left on.
func walk(r *rand.Rand, l api.NameList) []int {
	at := l.Left[r.IntN(len(l.Left))]
	chain := []int{at}
	most := 1 + r.IntN(44)
	for len(chain) < most {
		var next []int
		if r.IntN(40) == 0 {
			next = []int{-1, l.Names, at, r.IntN(l.Names)}
		}
		for _, x := range l.Links {
			if x.One == at {
				next = append(next, x.Two)
			}
			if x.Two == at {
				next = append(next, x.One)
			}
		}
		if len(next) == 0 {
			return chain
		}
		at = next[r.IntN(len(next))]
		chain = append(chain, at)
		if slices.Contains(l.Right, at) && r.IntN(3) > 0 {
			return chain
		}
	}
	return chain
}

// outOf returns what flows out of each name.
func outOf(l api.NameList, f api.NameFlow) []int64 {
	out := make([]int64, l.Names)
	for link, n := range f {
		out[l.Links[link].One] += n
		out[l.Links[link].Two] -= n
	}
	return out
}

// P6.6, P6.8: any flows: parts of one that is as great as any, with circles, and with wrong numbers.
func TestFlows(t *testing.T) {
	r := rand.New(rand.NewPCG(6, 6))
	seen, greats := map[api.Errno]int{}, map[int64]int{}
	for range 20000 {
		l := random(r, small)
		f, _ := name.Flow(l)
		_, cost := cheapest(l)
		for range r.IntN(4) {
			if len(f) > 0 {
				f[r.IntN(len(f))] += r.Int64N(3) - 1
			}
		}
		if r.IntN(3) == 0 {
			for link := range f {
				f[link] = -f[link]
			}
		}
		if r.IntN(10) == 0 {
			f = append(f, 0)
		}
		want, great := checkFlow(l, f)
		seen[want]++
		greats[great]++
		n, e := name.CheckFlow(l, f)
		if n != great || e != want || n > cost {
			t.Fatal(l, f, n, e, want, great, cost)
		}
	}
	if len(seen) != 3 || min(seen[api.OK], seen[api.ErrSum], seen[api.ErrEqual]) < 1000 || len(greats) < 10 {
		t.Error(seen, greats)
	}
}

// checkFlow is what CheckFlow has to return.
func checkFlow(l api.NameList, f api.NameFlow) (api.Errno, int64) {
	if len(f) != len(l.Links) {
		return api.ErrEqual, 0
	}
	for link, n := range f {
		if max(n, -n) > l.Links[link].Trust {
			return api.ErrSum, 0
		}
	}
	var great int64
	for n, out := range outOf(l, f) {
		switch {
		case slices.Contains(l.Left, n):
			great += out
		case !slices.Contains(l.Right, n) && out != 0:
			return api.ErrSum, 0
		}
	}
	return api.OK, great
}

// P6.5, P6.6, P6.7, P6.8, P6.9, P6.10: on lists of all sizes, the flow proves the cost, and each name's side is proved by the cost with the name in Left, or in Right.
func TestLarge(t *testing.T) {
	r := rand.New(rand.NewPCG(6, 7))
	seen := map[int]int{}
	for i := range 200 {
		of := large
		of.ends--
		if i%2 == 0 {
			of.trust = 3
		}
		l := random(r, of)
		side, cost := leastOf(t, l)
		cut, n, e := name.Cut(l, side)
		if great := greatOf(t, l); great != cost || n != cost || e != api.OK {
			t.Fatal(l, side, cost, n, e, great)
		}
		checkParted(t, l, cut)
		sides := kindsOf(t, l)
		if !slices.Equal(having(sides, 1), side) {
			t.Fatal(l, side, sides)
		}
		for n, kind := range sides {
			can := canBe(t, l, n, cost)
			if want := can[0] - can[1]; kind != want || can[0]+can[1] == 0 {
				t.Fatal(l, n, kind, can)
			}
			seen[kind]++
		}
	}
	if min(seen[0], seen[1], seen[-1]) < 300 {
		t.Error(seen)
	}
}

// canBe returns 1 or 0: whether a name is in a cheapest side, and whether it is not in one.
func canBe(t *testing.T, l api.NameList, n int, cost int64) (can [2]int) {
	t.Helper()
	for i := range can {
		with, ends := l, [2][]int{l.Left, l.Right}
		if slices.Contains(ends[1-i], n) {
			continue
		}
		if !slices.Contains(ends[i], n) {
			ends[i] = append(slices.Clone(ends[i]), n)
			slices.Sort(ends[i])
		}
		with.Left, with.Right = ends[0], ends[1]
		if _, c := leastOf(t, with); c == cost {
			can[i] = 1
		}
	}
	return can
}

// P6.11: with Left and Right exchanged, the cost is the same, and sides have the other sign.
func TestTurned(t *testing.T) {
	r := rand.New(rand.NewPCG(6, 8))
	for i := range 1000 {
		l := random(r, []sizes{small, large}[i%2])
		turned := l
		turned.Left, turned.Right = l.Right, l.Left
		_, cost := leastOf(t, l)
		_, other := leastOf(t, turned)
		of, signs := kindsOf(t, l), kindsOf(t, turned)
		for n := range signs {
			signs[n] = -signs[n]
		}
		if cost != other || !slices.Equal(of, signs) {
			t.Fatal(l, cost, other, of, signs)
		}
		turned.Links = nil
		for _, x := range l.Links {
			turned.Links = append(turned.Links, api.NameLink{One: x.Two, Two: x.One, Trust: x.Trust})
		}
		if great := greatOf(t, turned); great != cost {
			t.Fatal(l, great, cost)
		}
	}
}

// P6.12: a link more, or more Trust, costs no less, and no more than what came to it.
func TestMore(t *testing.T) {
	r := rand.New(rand.NewPCG(6, 9))
	seen := map[int64]int{}
	for i := range 3000 {
		of := []sizes{small, large}[i%2]
		of.links--
		of.trust = 5
		l := random(r, of)
		_, cost := leastOf(t, l)
		more := l
		link := someLink(r, l.Names, of.trust)
		if i%4 < 2 || len(l.Links) == 0 {
			more.Links = append(slices.Clone(l.Links), link)
		} else {
			more.Links = slices.Clone(l.Links)
			more.Links[r.IntN(len(l.Links))].Trust += link.Trust
		}
		_, other := leastOf(t, more)
		if other < cost || other > cost+link.Trust {
			t.Fatal(l, more, cost, other)
		}
		seen[other-cost]++
	}
	if len(seen) != 6 {
		t.Error(seen)
	}
}

// P6.12: groups do not depend on the order of links, and a link more in the drop joins no names.
func TestOrder(t *testing.T) {
	r := rand.New(rand.NewPCG(6, 10))
	for i := range 1000 {
		l := random(r, []sizes{small, large}[i%2])
		drop := some(r, len(l.Links), 3)
		groups := groupsOf(t, l, drop)
		places := r.Perm(len(l.Links))
		other := l
		other.Links = make([]api.NameLink, len(l.Links))
		for link, place := range places {
			other.Links[place] = l.Links[link]
		}
		var dropped []int
		for _, link := range drop {
			dropped = append(dropped, places[link])
		}
		slices.Sort(dropped)
		if got := groupsOf(t, other, dropped); !slices.EqualFunc(got, groups, slices.Equal[[]int]) {
			t.Fatal(l, drop, groups, got)
		}
		_, cost := leastOf(t, l)
		if _, c := leastOf(t, other); c != cost || !slices.Equal(kindsOf(t, l), kindsOf(t, other)) {
			t.Fatal(l, other, c, cost)
		}
		for link := range l.Links {
			if slices.Contains(drop, link) {
				continue
			}
			more := append(slices.Clone(drop), link)
			slices.Sort(more)
			for _, group := range groupsOf(t, l, more) {
				within := func(g []int) bool {
					return !slices.ContainsFunc(group, func(n int) bool { return !slices.Contains(g, n) })
				}
				if !slices.ContainsFunc(groups, within) {
					t.Fatal(l, drop, link, group)
				}
			}
		}
	}
}
