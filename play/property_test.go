package play_test

import (
	"math/rand/v2"
	"slices"
	"testing"

	"mandrel/api"
	"mandrel/play"
)

// sizes is how large a random cylinder can be.
type sizes struct {
	turns, plays, passages int
	worth                  int64
}

var (
	small = sizes{6, 3, 5, 3}
	large = sizes{api.MaxPlayTurns, api.MaxPlays, api.MaxPlayPassages, api.MaxPlayWorth}
	equal = sizes{api.MaxPlayTurns, api.MaxPlays, api.MaxPlayPassages, 1}
)

// random returns a random cylinder.
func random(r *rand.Rand, of sizes) api.PlayCylinder {
	c := api.PlayCylinder{Turns: 1 + r.IntN(of.turns), Plays: r.IntN(of.plays + 1)}
	c.Long = 1 + r.IntN(c.Turns)
	c.Fragile = slices.DeleteFunc(upTo(c.Turns), func(int) bool { return r.IntN(12) > 0 })
	for range r.IntN(of.passages + 1) {
		c.Passages = append(c.Passages, somePassage(r, c, of.worth))
	}
	return c
}

// somePassage returns a random passage, most of which are not too long for a playing.
func somePassage(r *rand.Rand, c api.PlayCylinder, worth int64) api.PlayPassage {
	from := r.IntN(c.Turns)
	on := r.IntN(c.Turns - from)
	if r.IntN(5) > 0 {
		on = min(on, r.IntN(c.Long))
	}
	return api.PlayPassage{From: from, To: from + on, Worth: r.Int64N(worth + 1)}
}

// canPlay tells whether turns of a cylinder can be played at once.
func canPlay(c api.PlayCylinder, s api.PlayStretch) bool {
	turns := 0
	for turn := s.From; turn <= s.To; turn++ {
		if turn < 0 || turn >= c.Turns || slices.Contains(c.Fragile, turn) {
			return false
		}
		turns++
	}
	return turns > 0 && turns <= c.Long
}

// stretchesOf returns all stretches of a cylinder.
func stretchesOf(c api.PlayCylinder) []api.PlayStretch {
	var all []api.PlayStretch
	for from := range c.Turns {
		for to := range c.Turns {
			if s := (api.PlayStretch{From: from, To: to}); canPlay(c, s) {
				all = append(all, s)
			}
		}
	}
	return all
}

// plansOf returns all plans of a cylinder that begin with a plan.
func plansOf(c api.PlayCylinder, plan []api.PlayStretch) [][]api.PlayStretch {
	all := [][]api.PlayStretch{plan}
	if len(plan) == c.Plays {
		return all
	}
	for _, s := range stretchesOf(c) {
		if len(plan) == 0 || s.From > plan[len(plan)-1].To {
			all = append(all, plansOf(c, append(slices.Clone(plan), s))...)
		}
	}
	return all
}

// savedBy returns what a plan saves, and what it is worth.
func savedBy(c api.PlayCylinder, plan []api.PlayStretch) (saved []int, worth int64) {
	playing := make([]int, c.Turns)
	for i, s := range plan {
		for turn := s.From; turn <= s.To; turn++ {
			playing[turn] = i + 1
		}
	}
	for i, p := range c.Passages {
		if part := playing[p.From : p.To+1]; slices.Min(part) == slices.Max(part) && part[0] > 0 {
			saved = append(saved, i)
			worth += p.Worth
		}
	}
	return saved, worth
}

// tried returns what all plans of a cylinder say: what each number of playings saves, and the kinds of passages.
func tried(c api.PlayCylinder) (worths []int64, kinds []int) {
	worths = make([]int64, c.Plays+1)
	var best [][]int
	for _, plan := range plansOf(c, nil) {
		saved, worth := savedBy(c, plan)
		for plays := len(plan); plays <= c.Plays; plays++ {
			worths[plays] = max(worths[plays], worth)
		}
		best = append(best, saved)
	}
	best = slices.DeleteFunc(best, func(saved []int) bool { return sum(c, saved) < worths[c.Plays] })
	for i := range c.Passages {
		count := 0
		for _, saved := range best {
			if slices.Contains(saved, i) {
				count++
			}
		}
		kinds = append(kinds, kindOf(count > 0, count == len(best)))
	}
	return worths, kinds
}

// sum returns what passages are worth together.
func sum(c api.PlayCylinder, passages []int) int64 {
	var worth int64
	for _, i := range passages {
		worth += c.Passages[i].Worth
	}
	return worth
}

// kindOf returns the kind of a passage that some best plans save, or all.
func kindOf(some, all bool) int {
	switch {
	case all:
		return api.PlayAlways
	case some:
		return api.PlayMay
	}
	return api.PlayNever
}

// P7.3, P7.4, P7.5, P7.6, P7.11: what is told of small cylinders is what all their plans say.
func TestSmall(t *testing.T) {
	r := rand.New(rand.NewPCG(7, 1))
	seen := map[int]int{}
	for range 4000 {
		c := random(r, small)
		worths, kinds := tried(c)
		if got := worthsOf(t, c); !slices.Equal(got, worths) {
			t.Fatal(c, got, worths)
		}
		if got := kindsOf(t, c); !slices.Equal(got, kinds) {
			t.Fatal(c, got, kinds)
		}
		for worth := range worths[c.Plays] + 2 {
			want := slices.IndexFunc(worths, func(w int64) bool { return w >= worth })
			if want < 0 {
				checkFewest(t, c, worth, 0, api.ErrPlan)
			} else {
				checkFewest(t, c, worth, want, api.OK)
			}
		}
		checkKinds(t, c, kinds)
		for _, kind := range kinds {
			seen[kind]++
		}
	}
	if len(seen) != 3 || min(seen[api.PlayNever], seen[api.PlayMay], seen[api.PlayAlways]) < 500 {
		t.Error(seen)
	}
}

// checkKinds checks what the kinds of passages promise of a best plan, and of passages that cannot be saved.
func checkKinds(t *testing.T, c api.PlayCylinder, kinds []int) {
	t.Helper()
	plan, _, e := play.Best(c)
	saved, _ := savedBy(c, plan)
	for i, p := range c.Passages {
		is := slices.Contains(saved, i)
		if is && kinds[i] == api.PlayNever || !is && kinds[i] == api.PlayAlways || e != api.OK {
			t.Fatal(c, plan, kinds, e)
		}
		if kinds[i] != api.PlayNever && !canPlay(c, api.PlayStretch{From: p.From, To: p.To}) {
			t.Fatal(c, kinds)
		}
	}
}

// P7.2: any stretches, checked turn by turn.
func TestPlans(t *testing.T) {
	r := rand.New(rand.NewPCG(7, 2))
	seen := map[api.Errno]int{}
	for range 20000 {
		c := random(r, small)
		plan := somePlan(r, c)
		want := errorOf(c, plan)
		seen[want]++
		saved, worth, e := play.Saves(c, plan)
		if e != want || play.CheckPlan(c, plan) != want {
			t.Fatal(c, plan, e, want)
		}
		if e != api.OK {
			continue
		}
		if passages, n := savedBy(c, plan); !slices.Equal(saved, passages) || worth != n {
			t.Fatal(c, plan, saved, worth, passages, n)
		}
	}
	if len(seen) != 5 || slices.Min([]int{seen[api.OK], seen[api.ErrRange], seen[api.ErrArg], seen[api.ErrWorn], seen[api.ErrMany]}) < 500 {
		t.Error(seen)
	}
}

// somePlan returns a random plan, or one that is spoilt.
func somePlan(r *rand.Rand, c api.PlayCylinder) []api.PlayStretch {
	all := plansOf(c, nil)
	plan := slices.Clone(all[r.IntN(len(all))])
	for range r.IntN(3) {
		if len(plan) > 0 && r.IntN(4) > 0 {
			plan[r.IntN(len(plan))].To += r.IntN(4) - 1
		} else if r.IntN(2) == 0 {
			from := r.IntN(c.Turns)
			plan = append(plan, api.PlayStretch{From: from, To: from + r.IntN(c.Turns-from)})
		}
	}
	if r.IntN(10) == 0 {
		slices.Reverse(plan)
	}
	return plan
}

// errorOf returns what CheckPlan has to return.
func errorOf(c api.PlayCylinder, plan []api.PlayStretch) api.Errno {
	if len(plan) > c.Plays {
		return api.ErrMany
	}
	for i, s := range plan {
		switch {
		case s.From < 0 || s.To >= c.Turns || s.From > s.To:
			return api.ErrRange
		case s.To-s.From+1 > c.Long:
			return api.ErrArg
		case !canPlay(c, s) || i > 0 && s.From <= plan[i-1].To:
			return api.ErrWorn
		}
	}
	return api.OK
}

// areRight tells whether labels are right, as the chapter defines it.
func areRight(c api.PlayCylinder, labels []int64) bool {
	label := func(turns, plays int) int64 { return labels[turns*(c.Plays+1)+plays] }
	right := label(0, 0) == 0
	for plays := range c.Plays + 1 {
		for turns := range c.Turns {
			right = right && label(turns+1, plays) >= label(turns, plays)
		}
	}
	for plays := range c.Plays {
		for turns := range c.Turns + 1 {
			right = right && label(turns, plays+1) >= label(turns, plays)
		}
		for _, s := range stretchesOf(c) {
			_, worth := savedBy(c, []api.PlayStretch{s})
			right = right && label(s.To+1, plays+1) >= label(s.From, plays)+worth
		}
	}
	return right
}

// P7.4, P7.7: labels that are changed are right just if they are so by definition, and then no plan is worth more than their bound.
func TestLabels(t *testing.T) {
	r := rand.New(rand.NewPCG(7, 3))
	seen := map[api.Errno]int{}
	for range 20000 {
		c := random(r, small)
		labels, e := play.Labels(c)
		if e != api.OK {
			t.Fatal(c, e)
		}
		for range r.IntN(3) {
			change(r, labels)
		}
		want := api.ErrSum
		switch {
		case slices.Min(labels) < 0:
			want = api.ErrRange
		case areRight(c, labels):
			want = api.OK
		}
		seen[want]++
		bound, e := play.CheckLabels(c, labels)
		if e != want {
			t.Fatal(c, labels, e, want)
		}
		if e == api.OK && (bound != labels[len(labels)-1] || bound < bestOf(t, c)) {
			t.Fatal(c, labels, bound)
		}
	}
	if len(seen) != 3 || min(seen[api.OK], seen[api.ErrRange], seen[api.ErrSum]) < 500 {
		t.Error(seen)
	}
}

// change changes one label, or all from one on.
func change(r *rand.Rand, labels []int64) {
	from := r.IntN(len(labels))
	count := 1 + r.IntN(2)*(len(labels)-from-1)
	more := r.Int64N(4) - 1
	for i := range count {
		labels[from+i] += more
	}
}

// P7.8: what becomes of Worths with a fragile turn more, a lesser Long, and a passage more.
func TestMore(t *testing.T) {
	r := rand.New(rand.NewPCG(7, 4))
	less, more := 0, 0
	for range 1500 {
		c := random(r, large)
		worths := worthsOf(t, c)
		if !slices.IsSorted(worths) {
			t.Fatal(c, worths)
		}
		worse := c
		if turn := r.IntN(c.Turns); r.IntN(2) == 0 {
			worse.Fragile = append(slices.Clone(c.Fragile), turn)
			slices.Sort(worse.Fragile)
			worse.Fragile = slices.Compact(worse.Fragile)
		} else {
			worse.Long = 1 + r.IntN(c.Long)
		}
		better := c
		p := somePassage(r, c, api.MaxPlayWorth)
		better.Passages = append(slices.Clone(c.Passages[:min(len(c.Passages), api.MaxPlayPassages-1)]), p)
		before := c
		before.Passages = better.Passages[:len(better.Passages)-1]
		base, lower, upper := worthsOf(t, before), worthsOf(t, worse), worthsOf(t, better)
		for plays := range worths {
			if lower[plays] > worths[plays] || upper[plays] < base[plays] || upper[plays] > base[plays]+p.Worth {
				t.Fatal(c, worse, better, worths, lower, upper)
			}
		}
		less += min(1, int(worths[c.Plays]-lower[c.Plays]))
		more += min(1, int(upper[c.Plays]-base[c.Plays]))
	}
	if min(less, more) < 200 {
		t.Error(less, more)
	}
}

// turned returns a cylinder turned round.
func turned(c api.PlayCylinder) api.PlayCylinder {
	out := api.PlayCylinder{Turns: c.Turns, Long: c.Long, Plays: c.Plays}
	for _, turn := range c.Fragile {
		out.Fragile = append(out.Fragile, c.Turns-1-turn)
	}
	slices.Reverse(out.Fragile)
	for _, p := range c.Passages {
		out.Passages = append(out.Passages, api.PlayPassage{From: c.Turns - 1 - p.To, To: c.Turns - 1 - p.From, Worth: p.Worth})
	}
	return out
}

// P7.9: Worths and kinds of a cylinder that is turned round.
func TestTurned(t *testing.T) {
	r := rand.New(rand.NewPCG(7, 5))
	for range 600 {
		for _, c := range []api.PlayCylinder{random(r, large), random(r, equal)} {
			round := turned(c)
			if a, b := worthsOf(t, c), worthsOf(t, round); !slices.Equal(a, b) {
				t.Fatal(c, a, b)
			}
			if a, b := kindsOf(t, c), kindsOf(t, round); !slices.Equal(a, b) {
				t.Fatal(c, a, b)
			}
		}
	}
}

// part returns so many turns of a cylinder from one on, as a cylinder.
func part(c api.PlayCylinder, from, turns int) api.PlayCylinder {
	out := api.PlayCylinder{Turns: turns, Long: min(c.Long, turns), Plays: c.Plays}
	for _, turn := range c.Fragile {
		if turn >= from && turn < from+turns {
			out.Fragile = append(out.Fragile, turn-from)
		}
	}
	for _, p := range c.Passages {
		if p.From >= from && p.To < from+turns {
			out.Passages = append(out.Passages, api.PlayPassage{From: p.From - from, To: p.To - from, Worth: p.Worth})
		}
	}
	return out
}

// P7.10: a fragile turn parts a cylinder.
func TestParted(t *testing.T) {
	r := rand.New(rand.NewPCG(7, 6))
	parted := 0
	for range 3000 {
		c := random(r, large)
		if len(c.Fragile) == 0 {
			continue
		}
		turn := c.Fragile[r.IntN(len(c.Fragile))]
		if turn == 0 || turn == c.Turns-1 {
			continue
		}
		before, after := worthsOf(t, part(c, 0, turn)), worthsOf(t, part(c, turn+1, c.Turns-turn-1))
		for plays, worth := range worthsOf(t, c) {
			var sum int64
			for some := range plays + 1 {
				sum = max(sum, before[some]+after[plays-some])
			}
			if worth != sum {
				t.Fatal(c, turn, plays, worth, sum)
			}
		}
		parted++
	}
	if parted < 1000 {
		t.Error(parted)
	}
}

// model tells what the stretches of a cylinder save, but for those that are refused.
type model struct {
	c       api.PlayCylinder
	refused func(api.PlayStretch) bool
	known   map[[3]int]int64
}

// most returns what so many playings of the turns from one on, in front of another one, save at most.
func (m model) most(from, end, plays int) int64 {
	if from >= end || plays == 0 {
		return 0
	}
	key := [3]int{from, end, plays}
	if worth, ok := m.known[key]; ok {
		return worth
	}
	worth := m.most(from+1, end, plays)
	for to := from; to < end; to++ {
		s := api.PlayStretch{From: from, To: to}
		if canPlay(m.c, s) && !m.refused(s) {
			_, saved := savedBy(m.c, []api.PlayStretch{s})
			worth = max(worth, saved+m.most(to+1, end, plays-1))
		}
	}
	m.known[key] = worth
	return worth
}

// mostOf returns what so many playings of a cylinder save at most, without the stretches that are refused.
func mostOf(c api.PlayCylinder, plays int, refused func(api.PlayStretch) bool) int64 {
	return model{c, refused, map[[3]int]int64{}}.most(0, c.Turns, plays)
}

// P7.3, P7.5, P7.11: on cylinders up to the limits, Worths are those of another way to compute them; and a passage is always saved just if no plan without it is as good.
func TestLarge(t *testing.T) {
	r := rand.New(rand.NewPCG(7, 7))
	seen := map[int]int{}
	for n := range 160 {
		c := random(r, large)
		if n%2 == 0 {
			c = random(r, equal)
		}
		worths, kinds := worthsOf(t, c), kindsOf(t, c)
		for plays, worth := range worths {
			if want := mostOf(c, plays, func(api.PlayStretch) bool { return false }); worth != want {
				t.Fatal(c, plays, worth, want)
			}
		}
		for i := range c.Passages {
			saves := func(s api.PlayStretch) bool {
				saved, _ := savedBy(c, []api.PlayStretch{s})
				return slices.Contains(saved, i)
			}
			best := worths[c.Plays]
			if want := kindOf(someSave(c, best, saves), mostOf(c, c.Plays, saves) < best); kinds[i] != want {
				t.Fatal(c, i, kinds, want)
			}
			seen[kinds[i]]++
		}
		checkKinds(t, c, kinds)
	}
	if len(seen) != 3 || min(seen[api.PlayNever], seen[api.PlayMay], seen[api.PlayAlways]) < 50 {
		t.Error(seen)
	}
}

// someSave tells whether some plan that is worth so much has a stretch that is meant.
func someSave(c api.PlayCylinder, best int64, meant func(api.PlayStretch) bool) bool {
	m := model{c, func(api.PlayStretch) bool { return false }, map[[3]int]int64{}}
	for _, s := range stretchesOf(c) {
		if !meant(s) {
			continue
		}
		_, worth := savedBy(c, []api.PlayStretch{s})
		for plays := range c.Plays {
			if m.most(0, s.From, plays)+worth+m.most(s.To+1, c.Turns, c.Plays-1-plays) == best {
				return true
			}
		}
	}
	return false
}
