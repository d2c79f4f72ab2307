package room_test

import (
	"math/rand/v2"
	"slices"
	"testing"

	"mandrel/api"
	"mandrel/room"
)

// sizes is how large a random room can be.
type sizes struct {
	degrees, add, deeds int64
	cost                int64
}

var (
	tiny  = sizes{3, 2, 2, 3}
	small = sizes{6, 3, 3, 5}
	large = sizes{api.MaxRoomDegree + 1, api.MaxRoomAdd, api.MaxRoomDeeds, api.MaxRoomCost}
	tight = sizes{api.MaxRoomDegree + 1, 4, api.MaxRoomDeeds, 20}
)

// random returns a random room.
func random(r *rand.Rand, of sizes) api.RoomSpec {
	count := 1 + r.Int64N(of.degrees)
	var out api.RoomSpec
	out.Lo = r.Int64N(api.MaxRoomDegree + 2 - count)
	out.Hi = out.Lo + count - 1
	out.Weather.Lo = r.Int64N(2*of.add+1) - of.add
	out.Weather.Hi = min(out.Weather.Lo+r.Int64N(of.add+1), of.add)
	for range 1 + r.Int64N(of.deeds) {
		out.Deeds = append(out.Deeds, someDeed(r, of))
	}
	return out
}

// someDeed returns a random deed.
func someDeed(r *rand.Rand, of sizes) api.RoomDeed {
	return api.RoomDeed{Add: r.Int64N(2*of.add+1) - of.add, Cost: r.Int64N(of.cost + 1)}
}

// someRule returns a random rule.
func someRule(r *rand.Rand, of api.RoomSpec) []int {
	rule := make([]int, size(of))
	for i := range rule {
		rule[i] = r.IntN(len(of.Deeds))
	}
	return rule
}

// each tells of each deed that it may be done.
func each(int64, int) bool { return true }

// only tells of each deed whether a rule does it.
func only(r api.RoomSpec, rule []int) func(int64, int) bool {
	return func(degree int64, deed int) bool { return rule[degree-r.Lo] == deed }
}

// canKeep tells of each degree whether it can be kept for so many days by deeds that may be done, as the chapter defines it.
func canKeep(r api.RoomSpec, days int, may func(degree int64, deed int) bool) []bool {
	can := slices.Repeat([]bool{true}, size(r))
	for range days {
		next := make([]bool, size(r))
		for i := range next {
			degree := r.Lo + int64(i)
			for deed, d := range r.Deeds {
				if !may(degree, deed) {
					continue
				}
				keeps := true
				for w := r.Weather.Lo; w <= r.Weather.Hi; w++ {
					to := degree + d.Add + w
					keeps = keeps && to >= r.Lo && to <= r.Hi && can[to-r.Lo]
				}
				next[i] = next[i] || keeps
			}
		}
		can = next
	}
	return can
}

// daysOf returns for how many days each degree can be kept, by counting days up to more than there are degrees.
func daysOf(r api.RoomSpec, may func(degree int64, deed int) bool) []int {
	days := make([]int, size(r))
	for n := 1; n <= 2*size(r)+3; n++ {
		for i, can := range canKeep(r, n, may) {
			if can {
				days[i] = n
			}
		}
	}
	for i, n := range days {
		if n > 2*size(r) {
			days[i] = ever
		}
	}
	return days
}

// worthOf returns the number that is described for ranks that prove, of a degree and a deed.
func worthOf(r api.RoomSpec, ranks []int, degree int64, deed int) int {
	least := ever
	for w := r.Weather.Lo; w <= r.Weather.Hi; w++ {
		to := degree + r.Deeds[deed].Add + w
		if to < r.Lo || to > r.Hi {
			return 0
		}
		least = min(least, ranks[to-r.Lo])
	}
	if least >= ever-1 {
		return ever
	}
	return least + 1
}

// prove tells whether ranks prove a room, as the chapter defines it.
func prove(r api.RoomSpec, ranks []int) bool {
	for i, rank := range ranks {
		greatest := 0
		for deed := range r.Deeds {
			n := worthOf(r, ranks, r.Lo+int64(i), deed)
			if deed == 0 {
				greatest = n
			}
			greatest = max(greatest, n)
		}
		if rank < 0 || rank != greatest {
			return false
		}
	}
	return true
}

// breaks tells whether weathers are a break of a rule.
func breaks(r api.RoomSpec, rule []int, degree int64, weathers []int64) bool {
	for i, w := range weathers {
		if w < r.Weather.Lo || w > r.Weather.Hi {
			return false
		}
		degree += r.Deeds[rule[degree-r.Lo]].Add + w
		if degree < r.Lo || degree > r.Hi {
			return i == len(weathers)-1
		}
	}
	return false
}

// weathersOf returns all lists of so many weathers.
func weathersOf(r api.RoomSpec, count int) [][]int64 {
	if count == 0 {
		return [][]int64{{}}
	}
	var all [][]int64
	for _, l := range weathersOf(r, count-1) {
		for w := r.Weather.Lo; w <= r.Weather.Hi; w++ {
			all = append(all, append(slices.Clone(l), w))
		}
	}
	return all
}

// rulesOf returns all rules of so many degrees and deeds.
func rulesOf(degrees, deeds int) [][]int {
	if degrees == 0 {
		return [][]int{{}}
	}
	var all [][]int
	for _, rule := range rulesOf(degrees-1, deeds) {
		for deed := range deeds {
			all = append(all, append(slices.Clone(rule), deed))
		}
	}
	return all
}

// P9.2, P9.3, P9.7: ranks of small rooms are the days for which degrees can be kept; the rule has the first one of the best deeds, and no rule keeps more.
func TestSmall(t *testing.T) {
	r := rand.New(rand.NewPCG(9, 1))
	seen := map[int]int{}
	for range 3000 {
		s := random(r, small)
		ranks, rule := ranksOf(t, s), ruleOf(t, s)
		if want := daysOf(s, each); !slices.Equal(ranks, want) {
			t.Fatal(s, ranks, want)
		}
		for i, deed := range rule {
			degree := s.Lo + int64(i)
			for other := range s.Deeds {
				if mine, n := worthOf(s, ranks, degree, deed), worthOf(s, ranks, degree, other); n > mine || n == mine && other < deed {
					t.Fatal(s, ranks, rule, degree)
				}
			}
		}
		best := make([]int, size(s))
		for _, rule := range rulesOf(min(size(s), 4), len(s.Deeds)) {
			for len(rule) < size(s) {
				rule = append(rule, someRule(r, s)[0])
			}
			kept := checkKept(t, s, rule)
			for i, days := range kept {
				best[i] = max(best[i], days)
			}
		}
		for i, rank := range ranks {
			if best[i] > rank || size(s) <= 4 && best[i] < rank {
				t.Fatal(s, ranks, best)
			}
			seen[rank]++
		}
	}
	if min(seen[0], seen[ever]) < 1000 || min(seen[1], seen[2], seen[3]) < 100 || seen[5] < 5 {
		t.Error(seen)
	}
}

// checkKept checks and returns for how many days a rule keeps degrees.
func checkKept(t *testing.T, s api.RoomSpec, rule []int) []int {
	t.Helper()
	kept, e := room.Kept(s, rule)
	if want := daysOf(s, only(s, rule)); !slices.Equal(kept, want) || e != api.OK {
		t.Fatal(s, rule, kept, want, e)
	}
	return kept
}

// P9.2, P9.6: of all lists with the numbers of some days, only the ranks prove a tiny room; and ranks that are changed do not.
func TestProved(t *testing.T) {
	r := rand.New(rand.NewPCG(9, 2))
	some := []int{0, 1, 2, 3, ever - 1, ever, ever + 1, -1}
	for range 300 {
		s := random(r, tiny)
		ranks := ranksOf(t, s)
		for _, l := range rulesOf(size(s), len(some)) {
			for i, n := range l {
				l[i] = some[n]
			}
			checkProof(t, s, l, ranks)
		}
	}
	for range 3000 {
		s := random(r, []sizes{small, large, tight}[r.IntN(3)])
		ranks := ranksOf(t, s)
		l := slices.Clone(ranks)
		for range r.IntN(3) {
			i := r.IntN(len(l))
			l[i] = []int{0, 1, l[i] - 1, l[i] + 1, ever, r.IntN(62)}[r.IntN(6)]
		}
		checkProof(t, s, l, ranks)
		for i := range l {
			l[i] = max(0, ranks[i]-1)
		}
		checkProof(t, s, l, ranks)
	}
}

// checkProof checks that a list proves a room just if it is its ranks.
func checkProof(t *testing.T, s api.RoomSpec, l, ranks []int) {
	t.Helper()
	want := api.ErrSum
	if slices.Equal(l, ranks) {
		want = api.OK
	}
	if e := room.CheckRanks(s, l); e != want || prove(s, l) != (want == api.OK) {
		t.Fatal(s, l, ranks, e)
	}
}

// P9.4, P9.7: of all short lists of weathers, the breaks are told from the others, and none of them is shorter than the one that is found.
func TestBreaks(t *testing.T) {
	r := rand.New(rand.NewPCG(9, 3))
	seen := map[api.Errno]int{}
	for range 1500 {
		s := random(r, small)
		s.Weather.Hi = min(s.Weather.Hi, s.Weather.Lo+2)
		rule := someRule(r, s)
		kept := keptOf(t, s, rule)
		for i, days := range kept {
			degree := s.Lo + int64(i)
			for count := 1; count <= 4; count++ {
				some := false
				for _, weathers := range weathersOf(s, count) {
					is := breaks(s, rule, degree, weathers)
					want := api.ErrRule
					if is {
						want = api.OK
					}
					if e := room.CheckBreak(s, rule, degree, weathers); e != want {
						t.Fatal(s, rule, degree, weathers, e)
					}
					seen[want]++
					some = some || is
				}
				if some && count <= days || !some && count == days+1 {
					t.Fatal(s, rule, degree, kept, count)
				}
			}
		}
	}
	if len(seen) != 2 || min(seen[api.OK], seen[api.ErrRule]) < 1000 {
		t.Error(seen)
	}
}

// P9.4: random weathers, some of which are not in Weather, on rooms of all sizes.
func TestWeathers(t *testing.T) {
	r := rand.New(rand.NewPCG(9, 4))
	seen := map[api.Errno]int{}
	for range 20000 {
		s := random(r, []sizes{small, large, tight}[r.IntN(3)])
		rule := someRule(r, s)
		degree := s.Lo + r.Int64N(s.Hi-s.Lo+1)
		weathers, e := room.Break(s, rule, degree)
		if e == api.ErrNone || r.IntN(3) == 0 {
			weathers = nil
			for range 1 + r.IntN(20) {
				weathers = append(weathers, s.Weather.Lo+r.Int64N(s.Weather.Hi-s.Weather.Lo+1))
			}
		}
		if r.IntN(3) == 0 {
			weathers[r.IntN(len(weathers))] += r.Int64N(3) - 1
		}
		want := api.ErrRule
		if breaks(s, rule, degree, weathers) {
			want = api.OK
		}
		seen[want]++
		if e := room.CheckBreak(s, rule, degree, weathers); e != want {
			t.Fatal(s, rule, degree, weathers, e)
		}
	}
	if len(seen) != 2 || min(seen[api.OK], seen[api.ErrRule]) < 1000 {
		t.Error(seen)
	}
}

// spend returns the least number of pence with which a degree can surely be kept for so many days, day by day; -1 if it cannot.
func spend(r api.RoomSpec, degree int64, days int) int64 {
	if degree < r.Lo || degree > r.Hi {
		return -1
	}
	if days == 0 {
		return 0
	}
	least := int64(-1)
	for _, d := range r.Deeds {
		var worst int64
		for w := r.Weather.Lo; w <= r.Weather.Hi && worst >= 0; w++ {
			if cost := spend(r, degree+d.Add+w, days-1); cost < 0 || cost > worst {
				worst = cost
			}
		}
		if worst >= 0 && (least < 0 || d.Cost+worst < least) {
			least = d.Cost + worst
		}
	}
	return least
}

// spendBy returns what days cost in some weather at most, if on each day a plan tells what is done at a degree; -1 if some day is not kept.
func spendBy(r api.RoomSpec, degree int64, plan [][]int, weathers [][]int64) int64 {
	var most int64
	for _, list := range weathers {
		at, cost := degree, int64(0)
		for day, w := range list {
			d := r.Deeds[plan[day][at-r.Lo]]
			at += d.Add + w
			cost += d.Cost
			if at < r.Lo || at > r.Hi {
				return -1
			}
		}
		most = max(most, cost)
	}
	return most
}

// plansOf returns all lists of so many rules.
func plansOf(rules [][]int, days int) [][][]int {
	if days == 0 {
		return [][][]int{{}}
	}
	var all [][][]int
	for _, plan := range plansOf(rules, days-1) {
		for _, rule := range rules {
			all = append(all, append(slices.Clone(plan), rule))
		}
	}
	return all
}

// P9.5: what is found costs as much as the best one of all plans for tiny rooms.
func TestPlans(t *testing.T) {
	r := rand.New(rand.NewPCG(9, 5))
	seen := map[bool]int{}
	for range 900 {
		s := random(r, tiny)
		days := r.IntN(4)
		weathers := weathersOf(s, days)
		plans := plansOf(rulesOf(size(s), len(s.Deeds)), days)
		for degree := s.Lo; degree <= s.Hi; degree++ {
			least := int64(-1)
			for _, plan := range plans {
				if cost := spendBy(s, degree, plan, weathers); cost >= 0 && (least < 0 || cost < least) {
					least = cost
				}
			}
			if cost := costOf(t, s, degree, days); cost != least {
				t.Fatal(s, degree, days, cost, least)
			}
			seen[least > 0]++
		}
	}
	if min(seen[true], seen[false]) < 200 {
		t.Error(seen)
	}
}

// P9.5: costs of small rooms, day by day; there is a plan just for as many days as the rank says.
func TestCosts(t *testing.T) {
	r := rand.New(rand.NewPCG(9, 6))
	plans := 0
	for range 1500 {
		s := random(r, small)
		s.Weather.Hi = min(s.Weather.Hi, s.Weather.Lo+2)
		ranks := ranksOf(t, s)
		for i, rank := range ranks {
			degree := s.Lo + int64(i)
			for days := range 5 {
				cost := costOf(t, s, degree, days)
				if cost != spend(s, degree, days) || (cost >= 0) != (days <= rank) {
					t.Fatal(s, degree, days, cost, rank)
				}
				plans += int(min(1, max(0, cost)))
			}
			for days := range 12 {
				if (costOf(t, s, degree, days) >= 0) != (days <= rank) {
					t.Fatal(s, degree, days, rank)
				}
			}
		}
	}
	if plans < 1000 {
		t.Error(plans)
	}
}

// table returns the costs of all degrees for all numbers of days up to one; -1 where there is no plan.
func table(r api.RoomSpec, days int) [][]int64 {
	all := [][]int64{make([]int64, size(r))}
	for range days {
		before := all[len(all)-1]
		row := slices.Repeat([]int64{-1}, size(r))
		for i := range row {
			for _, d := range r.Deeds {
				from, to := int64(i)+d.Add+r.Weather.Lo, int64(i)+d.Add+r.Weather.Hi
				if from < 0 || to >= int64(len(row)) || slices.Min(before[from:to+1]) < 0 {
					continue
				}
				if cost := d.Cost + slices.Max(before[from:to+1]); row[i] < 0 || cost < row[i] {
					row[i] = cost
				}
			}
		}
		all = append(all, row)
	}
	return all
}

// P9.2, P9.3, P9.5, P9.7, P9.10: rooms up to the limits, with costs from a table, which never become less.
func TestLarge(t *testing.T) {
	r := rand.New(rand.NewPCG(9, 7))
	longest, plans := 0, 0
	for range 250 {
		s := random(r, []sizes{large, tight, tight}[r.IntN(3)])
		ranks := ranksOf(t, s)
		if want := daysOf(s, each); !slices.Equal(ranks, want) {
			t.Fatal(s, ranks, want)
		}
		ruleOf(t, s)
		rule := someRule(r, s)
		for i, days := range checkKept(t, s, rule) {
			if days > ranks[i] {
				t.Fatal(s, rule, ranks)
			}
			if ranks[i] < ever {
				longest = max(longest, ranks[i])
			}
		}
		all := table(s, api.MaxRoomDays)
		for range 8 {
			i, days := r.IntN(size(s)), r.IntN(api.MaxRoomDays+1)
			cost := costOf(t, s, s.Lo+int64(i), days)
			if cost != all[days][i] || (cost >= 0) != (days <= ranks[i]) {
				t.Fatal(s, i, days, cost, all[days][i])
			}
			plans += int(min(1, max(0, cost)))
			checkParts(t, all, i, days, r.IntN(days+1))
		}
	}
	if longest < 20 || plans < 300 {
		t.Error(longest, plans)
	}
}

// leastOf returns the least cost that a row of a table has.
func leastOf(row []int64) int64 {
	least := int64(-1)
	for _, cost := range row {
		if cost >= 0 && (least < 0 || cost < least) {
			least = cost
		}
	}
	return least
}

// checkParts checks the cost of days against those of the first ones and of the others.
func checkParts(t *testing.T, all [][]int64, i, days, first int) {
	t.Helper()
	cost := all[days][i]
	if cost < 0 {
		return
	}
	if cost < all[first][i] || cost < leastOf(all[first])+leastOf(all[days-first]) {
		t.Fatal(all, i, days, first)
	}
}

// P9.8: a narrower Weather, a deed more, or a wider room.
func TestMore(t *testing.T) {
	r := rand.New(rand.NewPCG(9, 8))
	seen := [3]int{}
	for range 4000 {
		of := []sizes{small, tight}[r.IntN(2)]
		s := random(r, of)
		more, kind := s, r.IntN(3)
		switch kind {
		case 0:
			more.Weather.Lo += r.Int64N(s.Weather.Hi - s.Weather.Lo + 1)
			more.Weather.Hi -= r.Int64N(s.Weather.Hi - more.Weather.Lo + 1)
		case 1:
			more.Deeds = append(slices.Clone(s.Deeds[:min(len(s.Deeds), 5)]), someDeed(r, of))
			s.Deeds = more.Deeds[:len(more.Deeds)-1]
		case 2:
			more.Lo -= r.Int64N(min(2, s.Lo) + 1)
			more.Hi += r.Int64N(min(2, api.MaxRoomDegree-s.Hi) + 1)
		}
		ranks := ranksOf(t, more)[s.Lo-more.Lo:]
		for i, rank := range ranksOf(t, s) {
			if ranks[i] < rank {
				t.Fatal(s, more, ranks)
			}
			if ranks[i] > rank {
				seen[kind]++
			}
		}
	}
	if min(seen[0], seen[1], seen[2]) < 500 {
		t.Error(seen)
	}
}

// turned returns a room turned round.
func turned(s api.RoomSpec) api.RoomSpec {
	out := api.RoomSpec{Lo: api.MaxRoomDegree - s.Hi, Hi: api.MaxRoomDegree - s.Lo, Weather: api.Range{Lo: -s.Weather.Hi, Hi: -s.Weather.Lo}}
	for _, d := range s.Deeds {
		out.Deeds = append(out.Deeds, api.RoomDeed{Add: -d.Add, Cost: d.Cost})
	}
	return out
}

// reversed returns a list from its end on.
func reversed(l []int) []int {
	out := slices.Clone(l)
	slices.Reverse(out)
	return out
}

// P9.9: a room that is turned round, and one that is warmer.
func TestTurned(t *testing.T) {
	r := rand.New(rand.NewPCG(9, 9))
	for range 500 {
		s := random(r, []sizes{small, large, tight}[r.IntN(3)])
		round, higher := turned(s), s
		higher.Lo = r.Int64N(api.MaxRoomDegree - s.Hi + s.Lo + 1)
		higher.Hi = higher.Lo + s.Hi - s.Lo
		ranks, rule := ranksOf(t, s), ruleOf(t, s)
		if !slices.Equal(ranksOf(t, round), reversed(ranks)) || !slices.Equal(ruleOf(t, round), reversed(rule)) {
			t.Fatal(s)
		}
		if !slices.Equal(ranksOf(t, higher), ranks) || !slices.Equal(ruleOf(t, higher), rule) {
			t.Fatal(s)
		}
		rule = someRule(r, s)
		kept := keptOf(t, s, rule)
		if !slices.Equal(keptOf(t, round, reversed(rule)), reversed(kept)) || !slices.Equal(keptOf(t, higher, rule), kept) {
			t.Fatal(s, rule)
		}
		degree, days := s.Lo+r.Int64N(s.Hi-s.Lo+1), r.IntN(20)
		cost := costOf(t, s, degree, days)
		if costOf(t, round, api.MaxRoomDegree-degree, days) != cost || costOf(t, higher, degree-s.Lo+higher.Lo, days) != cost {
			t.Fatal(s, degree, days)
		}
	}
}

// P9.10: costs of deeds that cost nothing, or as many times as much.
func TestTimes(t *testing.T) {
	r := rand.New(rand.NewPCG(9, 10))
	plans := 0
	for range 2000 {
		s := random(r, []sizes{small, tight}[r.IntN(2)])
		free, dear, times := s, s, r.Int64N(500)
		free.Deeds, dear.Deeds = slices.Clone(s.Deeds), slices.Clone(s.Deeds)
		for i, d := range s.Deeds {
			free.Deeds[i].Cost = 0
			dear.Deeds[i].Cost = d.Cost * times
		}
		degree, days := s.Lo+r.Int64N(s.Hi-s.Lo+1), r.IntN(api.MaxRoomDays+1)/(1+r.IntN(50))
		cost := costOf(t, s, degree, days)
		most := min(0, cost)
		if costOf(t, free, degree, days) != most {
			t.Fatal(s, degree, days)
		}
		if cost > 0 {
			most = cost * times
		}
		if costOf(t, dear, degree, days) != most {
			t.Fatal(s, degree, days)
		}
		plans += int(min(1, max(0, cost)))
		if days > 0 && cost >= 0 && costOf(t, s, degree, days-1) > cost {
			t.Fatal(s, degree, days)
		}
	}
	if plans < 500 {
		t.Error(plans)
	}
}
