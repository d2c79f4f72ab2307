package right_test

import (
	"math/bits"
	"math/rand/v2"
	"slices"
	"testing"

	"mandrel/api"
	"mandrel/right"
)

// sizes is how large a random book can be.
type sizes struct {
	facts, start, rules, asks, taboos, needs int
}

var (
	small = sizes{6, 2, 8, 4, 3, 3}
	tiny  = sizes{4, 2, 4, 3, 2, 2}
	large = sizes{api.MaxRightFacts, 6, api.MaxRightRules, api.MaxRightAsks, api.MaxRightTaboos, api.MaxRightNeeds}
	loose = sizes{api.MaxRightFacts, 8, api.MaxRightRules, api.MaxRightAsks, api.MaxRightTaboos, 2}
	tight = sizes{16, 4, api.MaxRightRules, api.MaxRightAsks, api.MaxRightTaboos, 3}
)

// picked returns the numbers of the bits of a number, increasing.
func picked(set uint) []int {
	var l []int
	for ; set != 0; set &= set - 1 {
		l = append(l, bits.TrailingZeros(set))
	}
	return l
}

// setOf returns a number with the bits of a list.
func setOf(l []int) uint {
	var set uint
	for _, n := range l {
		set |= 1 << n
	}
	return set
}

// someFacts returns a random list of from least to most facts.
func someFacts(r *rand.Rand, facts, least, most int) []int {
	l := r.Perm(facts)[:min(facts, least+r.IntN(most-least+1))]
	slices.Sort(l)
	return l
}

// someRules returns so many random rules.
func someRules(r *rand.Rand, facts, count, needs int) []api.RightRule {
	var l []api.RightRule
	for range count {
		l = append(l, rule(r.IntN(facts), someFacts(r, facts, 0, needs)...))
	}
	return l
}

// drawn returns a random book in which a taboo may be broken from the start on.
func drawn(r *rand.Rand, of sizes) api.RightBook {
	b := api.RightBook{Facts: 1 + r.IntN(of.facts)}
	b.Start = someFacts(r, b.Facts, 0, of.start)
	for _, x := range someRules(r, b.Facts, r.IntN(of.rules+1), of.needs) {
		if len(x.Needs) > 0 || r.IntN(9) == 0 {
			b.Rules = append(b.Rules, x)
		}
	}
	b.Asks = someRules(r, b.Facts, of.asks-r.IntN(2+of.asks/2), min(2, of.needs))
	for range of.taboos - r.IntN(1+of.taboos/2) {
		b.Taboos = append(b.Taboos, someFacts(r, b.Facts, 1, of.needs))
	}
	return b
}

// random returns a random book that is valid: a taboo that is broken from the start on has another fact instead of one, if there is one that does not hold.
func random(r *rand.Rand, of sizes) api.RightBook {
	b := drawn(r, of)
	holds := heldBy(b, 0)
	free := picked((1<<b.Facts - 1) &^ holds)
	for _, taboo := range b.Taboos {
		if setOf(taboo)&^holds == 0 && len(free) > 0 {
			taboo[r.IntN(len(taboo))] = free[r.IntN(len(free))]
			slices.Sort(taboo)
		}
	}
	b.Taboos = slices.DeleteFunc(b.Taboos, func(taboo []int) bool { return setOf(taboo)&^holds == 0 })
	return b
}

// crowded returns a random valid book in which many asks conflict: each gives a fact of its own, from two or three of which others follow.
func crowded(r *rand.Rand) api.RightBook {
	b := api.RightBook{Facts: api.MaxRightFacts, Start: []int{0}}
	name := r.Perm(api.MaxRightAsks)
	for ask := range 4 + r.IntN(api.MaxRightAsks-3) {
		x := rule(1+name[ask], 0)
		if r.IntN(4) == 0 {
			x.Needs = []int{1 + r.IntN(api.MaxRightAsks)}
		}
		b.Asks = append(b.Asks, x)
	}
	for range r.IntN(api.MaxRightRules + 1) {
		needs := someFacts(r, 14+r.IntN(16), 2, 3)
		b.Rules = append(b.Rules, rule(1+r.IntN(api.MaxRightFacts-1), needs...))
	}
	for range 4 + r.IntN(api.MaxRightTaboos-3) {
		taboo := someFacts(r, 14+r.IntN(16), 2, 3)
		b.Taboos = append(b.Taboos, taboo)
	}
	return b
}

// some returns a random book of one of several kinds.
func some(r *rand.Rand) api.RightBook {
	if r.IntN(2) == 0 {
		return crowded(r)
	}
	return random(r, []sizes{small, large, loose, tight, tight}[r.IntN(5)])
}

// closed tells whether facts have all of Start, and the Gives of each rule and of each ask of granted all whose Needs they have.
func closed(b api.RightBook, granted, facts uint) bool {
	if setOf(b.Start)&^facts != 0 {
		return false
	}
	fits := func(r api.RightRule) bool { return setOf(r.Needs)&^facts != 0 || facts>>r.Gives&1 != 0 }
	for _, r := range b.Rules {
		if !fits(r) {
			return false
		}
	}
	for _, ask := range picked(granted) {
		if !fits(b.Asks[ask]) {
			return false
		}
	}
	return true
}

// leastClosed returns the facts that all sets of facts have that are closed.
func leastClosed(b api.RightBook, granted uint) uint {
	least := uint(1)<<b.Facts - 1
	for facts := range uint(1) << b.Facts {
		if closed(b, granted, facts) {
			least &= facts
		}
	}
	return least
}

// heldBy returns what holds, fact by fact.
func heldBy(b api.RightBook, granted uint) uint {
	all := slices.Clone(b.Rules)
	for _, ask := range picked(granted) {
		all = append(all, b.Asks[ask])
	}
	facts := setOf(b.Start)
	for {
		i := slices.IndexFunc(all, func(r api.RightRule) bool {
			return setOf(r.Needs)&^facts == 0 && facts>>r.Gives&1 == 0
		})
		if i < 0 {
			return facts
		}
		facts |= 1 << all[i].Gives
	}
}

// brokenBy returns the least number of a taboo that is broken, -1 if none is.
func brokenBy(b api.RightBook, granted uint) int {
	facts := heldBy(b, granted)
	return slices.IndexFunc(b.Taboos, func(taboo []int) bool { return setOf(taboo)&^facts == 0 })
}

// safeBy tells of each set of asks whether it is safe.
func safeBy(b api.RightBook) []bool {
	var safe []bool
	for granted := range uint(1) << len(b.Asks) {
		safe = append(safe, brokenBy(b, granted) == -1)
	}
	return safe
}

// fewestBy returns the first one of the longest lists of asks that are safe, of all lists.
func fewestBy(b api.RightBook) []int {
	var best []int
	for granted, safe := range safeBy(b) {
		l := picked(uint(granted))
		if safe && (len(l) > len(best) || len(l) == len(best) && slices.Compare(l, best) < 0) {
			best = l
		}
	}
	return best
}

// neededBy returns how many refusals conflicts need, of all sets of refusals.
func neededBy(asks int, conflicts [][]int) int {
	var sets []uint
	for _, l := range conflicts {
		sets = append(sets, setOf(l))
	}
	least := asks
	for refused := range uint(1) << asks {
		n := bits.OnesCount(refused)
		if n < least && !slices.ContainsFunc(sets, func(set uint) bool { return set&refused == 0 }) {
			least = n
		}
	}
	return least
}

// chainError tells whether a list of steps is a chain for a taboo, as the chapter defines it.
func chainError(b api.RightBook, granted []int, taboo int, chain []api.RightStep) api.Errno {
	facts := setOf(b.Start)
	for _, s := range chain {
		var r api.RightRule
		switch {
		case s.Ask && slices.Contains(granted, s.Number):
			r = b.Asks[s.Number]
		case !s.Ask && s.Number >= 0 && s.Number < len(b.Rules):
			r = b.Rules[s.Number]
		default:
			return api.ErrRule
		}
		if setOf(r.Needs)&^facts != 0 {
			return api.ErrRule
		}
		facts |= 1 << r.Gives
	}
	if setOf(b.Taboos[taboo])&^facts != 0 {
		return api.ErrSum
	}
	return api.OK
}

// bookError tells what is wrong with a book, as the chapter defines it.
func bookError(b api.RightBook) api.Errno {
	many := b.Facts < 1 || b.Facts > 30 || len(b.Rules) > 40 || len(b.Asks) > 12 || len(b.Taboos) > 10
	arg := false
	fact := func(n int) bool { return n >= 0 && n < b.Facts }
	check := func(l []int) {
		for i, n := range l {
			arg = arg || !fact(n) || i > 0 && l[i-1] >= n
		}
	}
	for _, r := range append(slices.Clone(b.Rules), b.Asks...) {
		many = many || len(r.Needs) > 6
		arg = arg || !fact(r.Gives)
		check(r.Needs)
	}
	for _, taboo := range b.Taboos {
		many = many || len(taboo) < 1 || len(taboo) > 6
		check(taboo)
	}
	check(b.Start)
	switch {
	case many:
		return api.ErrMany
	case arg:
		return api.ErrArg
	case brokenBy(b, 0) != -1:
		return api.ErrClash
	}
	return api.OK
}

// P10.1: random books, some of which are spoilt.
func TestBooks(t *testing.T) {
	r := rand.New(rand.NewPCG(10, 1))
	seen := map[api.Errno]int{}
	for range 30000 {
		b := drawn(r, []sizes{small, tiny, large, tight}[r.IntN(4)])
		for range r.IntN(3) {
			spoilBook(r, &b)
		}
		want := bookError(b)
		seen[want]++
		if e := right.CheckBook(b); e != want {
			t.Fatal(b, e, want)
		}
	}
	if len(seen) != 4 || min(seen[api.OK], seen[api.ErrMany], seen[api.ErrArg], seen[api.ErrClash]) < 1000 {
		t.Error(seen)
	}
}

// spoilBook changes a number, or a list, of a book.
func spoilBook(r *rand.Rand, b *api.RightBook) {
	one := func(l []int) {
		if len(l) > 0 {
			l[r.IntN(len(l))] += r.IntN(5) - 2
		}
	}
	all := b.Rules
	if len(all) == 0 || len(b.Asks) > 0 && r.IntN(2) == 0 {
		all = b.Asks
	}
	switch at := r.IntN(9); {
	case at == 0:
		b.Facts += r.IntN(5) - 2
	case at == 1:
		one(b.Start)
	case at == 2:
		b.Start = append(b.Start, r.IntN(b.Facts+2))
	case at < 5 && len(all) > 0:
		one(all[r.IntN(len(all))].Needs)
	case at == 5 && len(all) > 0:
		all[r.IntN(len(all))].Gives += r.IntN(7) - 3
	case at == 6 && len(all) > 0:
		all[r.IntN(len(all))].Needs = upTo(0, 4+r.IntN(4))
	case at == 7 && len(b.Taboos) > 0:
		one(b.Taboos[r.IntN(len(b.Taboos))])
	case at == 8 && len(b.Taboos) > 0:
		b.Taboos[r.IntN(len(b.Taboos))] = upTo(0, r.IntN(9)-1)
	}
}

// P10.2 to P10.7, P10.9, P10.10: small books, for all lists of asks, against the least one of all sets of facts.
func TestSmall(t *testing.T) {
	r := rand.New(rand.NewPCG(10, 2))
	seen := map[int]int{}
	for range 3000 {
		b := random(r, small)
		for granted := range uint(1) << len(b.Asks) {
			facts := leastClosed(b, granted)
			if l := holdsOf(t, b, picked(granted)); !slices.Equal(l, picked(facts)) || facts != heldBy(b, granted) {
				t.Fatal(b, granted, l, facts)
			}
			taboo := brokenOf(t, b, picked(granted))
			if taboo != brokenBy(b, granted) {
				t.Fatal(b, granted, taboo)
			}
			seen[taboo]++
		}
		decideOf(t, b)
		if l := fewestOf(t, b); !slices.Equal(l, fewestBy(b)) {
			t.Fatal(b, l)
		}
	}
	if len(seen) != 4 || min(seen[-1], seen[0], seen[1], seen[2]) < 200 {
		t.Error(seen)
	}
}

// chainsOf returns all lists of up to so many steps, of all rules and asks of a book, and of one of each that there is not.
func chainsOf(b api.RightBook, count int) [][]api.RightStep {
	if count == 0 {
		return [][]api.RightStep{nil}
	}
	all := chainsOf(b, count-1)
	for _, chain := range all {
		if len(chain) < count-1 {
			continue
		}
		for n := range len(b.Rules) + 1 {
			all = append(all, append(slices.Clone(chain), api.RightStep{Number: n}))
		}
		for n := range len(b.Asks) + 1 {
			all = append(all, append(slices.Clone(chain), api.RightStep{Ask: true, Number: n}))
		}
	}
	return all
}

// P10.4, P10.8: of all short lists of steps the chains are told from the others; there are some just if granted is not safe.
func TestChains(t *testing.T) {
	r := rand.New(rand.NewPCG(10, 3))
	seen := map[api.Errno]int{}
	for range 250 {
		b := random(r, tiny)
		granted := picked(uint(r.IntN(1 << len(b.Asks))))
		chains := chainsOf(b, min(4, b.Facts))
		some := false
		for taboo := range b.Taboos {
			for _, chain := range chains {
				want := chainError(b, granted, taboo, chain)
				if e := right.CheckChain(b, granted, taboo, chain); e != want {
					t.Fatal(b, granted, taboo, chain, e, want)
				}
				some = some || want == api.OK
				seen[want]++
			}
		}
		if (brokenOf(t, b, granted) == -1) == some {
			t.Fatal(b, granted)
		}
	}
	if len(seen) != 3 || min(seen[api.OK], seen[api.ErrRule], seen[api.ErrSum]) < 300 {
		t.Error(seen)
	}
}

// P10.4: chains on books of all sizes, no step of which can be left out; and chains with steps changed, left out, or taken twice, and with fewer asks granted.
func TestLongChains(t *testing.T) {
	r := rand.New(rand.NewPCG(10, 4))
	seen, longest := map[api.Errno]int{}, 0
	for range 30000 {
		b := some(r)
		granted := picked(uint(r.IntN(1 << len(b.Asks))))
		taboo, chain, e := right.Broken(b, granted)
		if e != api.OK {
			continue
		}
		longest = max(longest, len(chain))
		for i := range chain {
			if chainError(b, granted, taboo, slices.Delete(slices.Clone(chain), i, i+1)) == api.OK {
				t.Fatal(b, granted, taboo, chain, i)
			}
		}
		for range r.IntN(3) {
			at := r.IntN(len(chain) + 1)
			other := api.RightStep{Ask: r.IntN(2) == 0, Number: r.IntN(api.MaxRightRules)}
			switch {
			case at == len(chain):
				chain = append(chain, other)
			case r.IntN(3) == 0:
				chain = append(chain, chain[at])
			case r.IntN(2) == 0:
				chain = slices.Delete(chain, at, at+1)
			default:
				chain[at] = other
			}
		}
		if r.IntN(4) == 0 {
			granted = granted[:r.IntN(len(granted)+1)]
		}
		if r.IntN(4) == 0 {
			taboo = r.IntN(len(b.Taboos))
		}
		want := chainError(b, granted, taboo, chain)
		seen[want]++
		if e := right.CheckChain(b, granted, taboo, chain); e != want {
			t.Fatal(b, granted, taboo, chain, e, want)
		}
	}
	if len(seen) != 3 || min(seen[api.OK], seen[api.ErrRule], seen[api.ErrSum]) < 500 || longest < 10 {
		t.Error(seen, longest)
	}
}

// P10.2 to P10.10: books up to the limits, against all lists of asks.
func TestLarge(t *testing.T) {
	r := rand.New(rand.NewPCG(10, 5))
	refused, better := map[int]int{}, 0
	for range 300 {
		b := some(r)
		safe := safeBy(b)
		for range 20 {
			granted := r.IntN(len(safe))
			if l := holdsOf(t, b, picked(uint(granted))); setOf(l) != heldBy(b, uint(granted)) || !slices.IsSorted(l) {
				t.Fatal(b, granted, l)
			}
			if taboo := brokenOf(t, b, picked(uint(granted))); taboo != brokenBy(b, uint(granted)) || (taboo == -1) != safe[granted] {
				t.Fatal(b, granted, taboo)
			}
		}
		l := fewestOf(t, b)
		if want := fewestBy(b); !slices.Equal(l, want) {
			t.Fatal(b, l, want)
		}
		n := 0
		for _, taboo := range decideOf(t, b) {
			n += min(1, taboo+1)
		}
		if n < len(b.Asks)-len(l) {
			t.Fatal(b, l, n)
		}
		refused[len(b.Asks)-len(l)]++
		better += min(1, n-(len(b.Asks)-len(l)))
		proof, _ := right.Conflicts(b)
		if slices.ContainsFunc(proof, func(l []int) bool { return safe[setOf(l)] }) || neededBy(len(b.Asks), proof) != len(b.Asks)-len(l) {
			t.Fatal(b, l, proof)
		}
	}
	if len(refused) < 6 || min(refused[0], refused[1], refused[2], refused[3]) < 10 || better < 10 {
		t.Error(refused, better)
	}
}

// P10.7, P10.10: random lists of asks as conflicts, against all sets of refusals; no safe list leaves out fewer asks.
func TestConflicts(t *testing.T) {
	r := rand.New(rand.NewPCG(10, 6))
	seen, needs := map[api.Errno]int{}, map[int]int{}
	for range 1200 {
		b := some(r)
		safe := safeBy(b)
		var l [][]int
		want := api.OK
		for range r.IntN(40) {
			granted := r.IntN(len(safe)) & r.IntN(len(safe))
			if safe[granted] && r.IntN(99) > 0 {
				continue
			}
			if safe[granted] {
				want = api.ErrSum
			}
			l = append(l, picked(uint(granted)))
		}
		n, e := right.CheckConflicts(b, l)
		seen[want]++
		if e != want || e != api.OK && n != 0 {
			t.Fatal(b, l, n, e, want)
		}
		if e != api.OK {
			continue
		}
		if n != neededBy(len(b.Asks), l) {
			t.Fatal(b, l, n)
		}
		needs[n]++
		for granted, is := range safe {
			if is && len(b.Asks)-bits.OnesCount(uint(granted)) < n {
				t.Fatal(b, l, n, granted)
			}
		}
	}
	if min(seen[api.OK], seen[api.ErrSum]) < 100 || min(needs[0], needs[1], needs[2], needs[3]) < 10 {
		t.Error(seen, needs)
	}
}

// P10.11: what becomes of lists of asks that are safe, and of what holds, with more asks, facts and rules.
func TestMore(t *testing.T) {
	r := rand.New(rand.NewPCG(10, 7))
	safe, more := 0, 0
	for range 5000 {
		b := some(r)
		granted := uint(r.IntN(1 << len(b.Asks)))
		fewer := granted & uint(r.IntN(1<<len(b.Asks)))
		all, before := setOf(holdsOf(t, b, picked(granted))), setOf(holdsOf(t, b, picked(fewer)))
		if before&^all != 0 {
			t.Fatal(b, granted, fewer)
		}
		if right.Check(b, picked(granted)) == api.OK {
			safe++
			if right.Check(b, picked(fewer)) != api.OK {
				t.Fatal(b, granted, fewer)
			}
		}
		wider := b
		wider.Taboos = nil
		if r.IntN(2) == 0 {
			wider.Start = picked(setOf(b.Start) | 1<<r.IntN(b.Facts))
		} else if len(b.Rules) < api.MaxRightRules {
			wider.Rules = append(slices.Clone(b.Rules), rule(r.IntN(b.Facts), someFacts(r, b.Facts, 0, 2)...))
		}
		after := setOf(holdsOf(t, wider, picked(granted)))
		if all&^after != 0 {
			t.Fatal(b, wider, granted)
		}
		more += bits.OnesCount(after &^ all)
	}
	if safe < 500 || more < 500 {
		t.Error(safe, more)
	}
}

// P10.12: rules in another order, and without one whose Gives holds always.
func TestOrder(t *testing.T) {
	r := rand.New(rand.NewPCG(10, 8))
	left := 0
	for range 1000 {
		b := some(r)
		other := b
		other.Rules = slices.Clone(b.Rules)
		r.Shuffle(len(other.Rules), func(i, j int) { other.Rules[i], other.Rules[j] = other.Rules[j], other.Rules[i] })
		if r.IntN(2) == 0 {
			slices.Reverse(other.Rules)
		}
		checkSame(t, r, b, other)
		start := setOf(b.Start)
		other.Rules = slices.DeleteFunc(other.Rules, func(x api.RightRule) bool { return start>>x.Gives&1 != 0 })
		left += min(1, len(b.Rules)-len(other.Rules))
		checkSame(t, r, b, other)
	}
	if left < 300 {
		t.Error(left)
	}
}

// checkSame checks that the same holds in both books, and that the same is decided.
func checkSame(t *testing.T, r *rand.Rand, b, other api.RightBook) {
	t.Helper()
	for range 5 {
		granted := picked(uint(r.IntN(1 << len(b.Asks))))
		if !slices.Equal(holdsOf(t, b, granted), holdsOf(t, other, granted)) || brokenOf(t, b, granted) != brokenOf(t, other, granted) {
			t.Fatal(b, other, granted)
		}
	}
	if !slices.Equal(decideOf(t, b), decideOf(t, other)) {
		t.Fatal(b, other)
	}
	l, e := right.Fewest(b)
	m, f := right.Fewest(other)
	if !slices.Equal(l, m) || e != api.OK || f != api.OK {
		t.Fatal(b, other, l, m)
	}
}
