package family_test

import (
	"math/rand/v2"
	"slices"
	"testing"

	"mandrel/api"
	"mandrel/family"
)

// sizes is how large a random book can be.
type sizes struct {
	songs, steps int
	changes      int64
}

var (
	small = sizes{5, 10, 4}
	large = sizes{api.MaxFamilySongs, api.MaxFamilySteps, api.MaxFamilyChanges}
	equal = sizes{api.MaxFamilySongs, 90, 6}
)

// random returns a random book.
func random(r *rand.Rand, of sizes) api.FamilyBook {
	b := api.FamilyBook{Songs: 1 + r.IntN(of.songs)}
	b.Root = r.IntN(b.Songs)
	if b.Songs > 1 {
		for range r.IntN(of.steps + 1) {
			b.Steps = append(b.Steps, someStep(r, b, of.changes))
		}
	}
	return b
}

// someStep returns a random step of a book that has at least two variants.
func someStep(r *rand.Rand, b api.FamilyBook, changes int64) api.FamilyStep {
	s := api.FamilyStep{From: r.IntN(b.Songs), To: r.IntN(b.Songs - 1), Changes: r.Int64N(changes + 1)}
	if s.To >= s.From {
		s.To++
	}
	return s
}

// grown returns a random book that has a tree.
func grown(r *rand.Rand, of sizes) api.FamilyBook {
	for {
		if b := random(r, of); len(lostOf(b)) == 0 {
			return b
		}
	}
}

// nested returns a random book of variants that are close to the next ones, and to Root the farther from it they are.
func nested(r *rand.Rand) api.FamilyBook {
	b := api.FamilyBook{Songs: 3 + r.IntN(api.MaxFamilySongs-2)}
	for song := range b.Songs {
		for other := range song {
			if r.IntN(4) == 0 && song-other > 1 {
				continue
			}
			apart := int64(song^other)*10 + r.Int64N(3)
			b.Steps = append(b.Steps, api.FamilyStep{From: other, To: song, Changes: apart})
			if other > 0 {
				b.Steps = append(b.Steps, api.FamilyStep{From: song, To: other, Changes: apart - r.Int64N(2)})
			}
		}
	}
	r.Shuffle(len(b.Steps), func(i, j int) { b.Steps[i], b.Steps[j] = b.Steps[j], b.Steps[i] })
	b.Steps = b.Steps[:min(len(b.Steps), api.MaxFamilySteps)]
	for song := 1; song < b.Songs; song++ {
		b.Steps[r.IntN(len(b.Steps))] = api.FamilyStep{To: song, Changes: 1000 + r.Int64N(4)}
	}
	if len(lostOf(b)) > 0 {
		return nested(r)
	}
	return b
}

// lostOf returns the variants to which no list of steps goes from Root.
func lostOf(b api.FamilyBook) []int {
	known := []int{b.Root}
	for at := 0; at < len(known); at++ {
		for _, s := range b.Steps {
			if s.From == known[at] && !slices.Contains(known, s.To) {
				known = append(known, s.To)
			}
		}
	}
	var lost []int
	for song := range b.Songs {
		if !slices.Contains(known, song) {
			lost = append(lost, song)
		}
	}
	return lost
}

// errorOf returns what CheckTree has to return for a tree.
func errorOf(b api.FamilyBook, tree []int) api.Errno {
	if len(tree) != b.Songs {
		return api.ErrEqual
	}
	for song, step := range tree {
		if song == b.Root && step != -1 {
			return api.ErrRange
		}
		if song != b.Root && (step < 0 || step >= len(b.Steps) || b.Steps[step].To != song) {
			return api.ErrRange
		}
	}
	for song := range tree {
		for range b.Songs {
			if song != b.Root {
				song = b.Steps[tree[song]].From
			}
		}
		if song != b.Root {
			return api.ErrRule
		}
	}
	return api.OK
}

// changesOf returns the changes of a tree, -1 if it is none.
func changesOf(b api.FamilyBook, tree []int) int64 {
	if errorOf(b, tree) != api.OK {
		return -1
	}
	var changes int64
	for _, step := range tree {
		if step >= 0 {
			changes += b.Steps[step].Changes
		}
	}
	return changes
}

// boundOf returns the bound of prices, -1 if they are not right.
func boundOf(b api.FamilyBook, l []api.FamilyPrice) int64 {
	var bound int64
	for _, p := range l {
		if len(p.Songs) == 0 || p.Price < 0 || !slices.IsSorted(p.Songs) || slices.Contains(p.Songs, b.Root) {
			return -1
		}
		bound += p.Price
	}
	for _, s := range b.Steps {
		var sum int64
		for _, p := range l {
			if slices.Contains(p.Songs, s.To) && !slices.Contains(p.Songs, s.From) {
				sum += p.Price
			}
		}
		if sum > s.Changes {
			return -1
		}
	}
	return bound
}

// treesOf returns all trees of a book that begin with some numbers.
func treesOf(b api.FamilyBook, tree []int) [][]int {
	if len(tree) == b.Songs {
		if errorOf(b, tree) == api.OK {
			return [][]int{tree}
		}
		return nil
	}
	if len(tree) == b.Root {
		return treesOf(b, append(slices.Clone(tree), -1))
	}
	var all [][]int
	for step, s := range b.Steps {
		if s.To == len(tree) {
			all = append(all, treesOf(b, append(slices.Clone(tree), step))...)
		}
	}
	return all
}

// tried returns what all trees of a book say.
func tried(b api.FamilyBook, trees [][]int) (fewest, most int64, grades []int) {
	var best [][]int
	fewest, most = 1<<40, 1<<40
	for _, tree := range trees {
		if changes := changesOf(b, tree); changes <= fewest {
			if changes < fewest {
				best = nil
			}
			fewest, best = changes, append(best, tree)
		}
		most = min(most, largest(b, tree))
	}
	for step := range b.Steps {
		count := 0
		for _, tree := range best {
			if slices.Contains(tree, step) {
				count++
			}
		}
		grades = append(grades, gradeOf(count > 0, count == len(best)))
	}
	return fewest, most, grades
}

// largest returns how many changes the largest step of a tree has.
func largest(b api.FamilyBook, tree []int) int64 {
	var most int64
	for _, step := range tree {
		if step >= 0 {
			most = max(most, b.Steps[step].Changes)
		}
	}
	return most
}

// gradeOf returns the grade of a step that some trees with the fewest changes have, or all.
func gradeOf(some, all bool) int {
	switch {
	case all:
		return 2
	case some:
		return 1
	}
	return 0
}

// P8.3 to P8.9, P8.11, P8.12: what is told of small books is what all their trees say.
func TestSmall(t *testing.T) {
	r := rand.New(rand.NewPCG(8, 1))
	seen, lost, smaller := map[int]int{}, 0, 0
	for range 12000 {
		b := random(r, small)
		trees := treesOf(b, nil)
		want := lostOf(b)
		checkLost(t, b, want)
		if (len(want) == 0) != (len(trees) > 0) {
			t.Fatal(b, want, trees)
		}
		if len(trees) == 0 {
			checkParted(t, b, want)
			lost++
			continue
		}
		fewest, most, grades := tried(b, trees)
		if got := fewestOf(t, b); got != fewest {
			t.Fatal(b, got, fewest)
		}
		if got := mostOf(t, b); got != most {
			t.Fatal(b, got, most)
		}
		if got := gradesOf(t, b); !slices.Equal(got, grades) {
			t.Fatal(b, got, grades)
		}
		checkGrades(t, b, grades)
		for _, grade := range grades {
			seen[grade]++
		}
		if tree, _, _ := family.Cheapest(b); largest(b, tree) > most {
			smaller++
		}
	}
	if len(seen) != 3 || min(seen[0], seen[1], seen[2], lost) < 1000 || smaller < 10 {
		t.Error(seen, lost, smaller)
	}
}

// checkParted checks that no step goes from a variant that is not lost to one that is.
func checkParted(t *testing.T, b api.FamilyBook, lost []int) {
	t.Helper()
	for _, s := range b.Steps {
		if !slices.Contains(lost, s.From) && slices.Contains(lost, s.To) {
			t.Fatal(b, lost, s)
		}
	}
}

// checkGrades checks what grades promise of the steps to each variant, and of a tree with the fewest changes.
func checkGrades(t *testing.T, b api.FamilyBook, grades []int) {
	t.Helper()
	tree, _, e := family.Cheapest(b)
	if e != api.OK {
		t.Fatal(b, e)
	}
	for song := range b.Songs {
		var count [3]int
		for step, s := range b.Steps {
			if s.To == song {
				count[grades[step]]++
			}
		}
		one := count[2] == 1 && count[1] == 0
		some := count[2] == 0 && count[1] >= 2
		if song == b.Root && (count[1] > 0 || count[2] > 0) || song != b.Root && one == some {
			t.Fatal(b, song, grades)
		}
	}
	for step, grade := range grades {
		if is := slices.Contains(tree, step); is && grade == 0 || !is && grade == 2 {
			t.Fatal(b, tree, grades)
		}
	}
}

// P8.2: any numbers, checked by definition.
func TestTrees(t *testing.T) {
	r := rand.New(rand.NewPCG(8, 2))
	seen := map[api.Errno]int{}
	for range 30000 {
		b := random(r, small)
		tree := someTree(r, b)
		want := errorOf(b, tree)
		seen[want]++
		changes, e := family.CheckTree(b, tree)
		if e != want || e == api.OK && changes != changesOf(b, tree) || e != api.OK && changes != 0 {
			t.Fatal(b, tree, changes, e, want)
		}
	}
	if len(seen) != 4 || min(seen[api.OK], seen[api.ErrEqual], seen[api.ErrRange], seen[api.ErrRule]) < 1000 {
		t.Error(seen)
	}
}

// someTree returns a random step to each variant, if there is one, or numbers that are spoilt.
func someTree(r *rand.Rand, b api.FamilyBook) []int {
	tree := slices.Repeat([]int{-1}, b.Songs)
	for _, step := range r.Perm(len(b.Steps)) {
		if to := b.Steps[step].To; to != b.Root {
			tree[to] = step
		}
	}
	switch r.IntN(12) {
	case 0:
		tree = append(tree, -1)
	case 1:
		tree = tree[1:]
	case 2:
		tree[r.IntN(len(tree))] = r.IntN(len(b.Steps)+3) - 2
	}
	return tree
}

// P8.5, P8.8: prices that are changed are right just if they are so by definition, and then no tree has fewer changes than their bound.
func TestPrices(t *testing.T) {
	r := rand.New(rand.NewPCG(8, 3))
	seen := map[api.Errno]int{}
	for range 20000 {
		b := grown(r, small)
		l, e := family.Prices(b)
		if e != api.OK || len(l) > api.MaxFamilyPrices {
			t.Fatal(b, l, e)
		}
		for range r.IntN(3) {
			l = change(r, b, l)
		}
		want := boundOf(b, l)
		bound, e := family.CheckPrices(b, l)
		seen[e]++
		if e == api.OK && (bound != want || bound > fewestOf(t, b)) || e != api.OK && (bound != 0 || want != -1) {
			t.Fatal(b, l, bound, e, want)
		}
		below := func(p api.FamilyPrice) bool { return p.Price < 0 }
		if (e == api.ErrRange) != slices.ContainsFunc(l, below) {
			t.Fatal(b, l, e)
		}
	}
	if len(seen) != 3 || min(seen[api.OK], seen[api.ErrRange], seen[api.ErrSum]) < 500 {
		t.Error(seen)
	}
}

// change returns prices with one that is changed, or that is new.
func change(r *rand.Rand, b api.FamilyBook, l []api.FamilyPrice) []api.FamilyPrice {
	if len(l) > 0 && r.IntN(3) > 0 {
		l[r.IntN(len(l))].Price += r.Int64N(4) - 2
		return l
	}
	p := api.FamilyPrice{Price: r.Int64N(2)}
	for song := range b.Songs {
		if song != b.Root && r.IntN(2) == 0 {
			p.Songs = append(p.Songs, song)
		}
	}
	if len(p.Songs) == 0 {
		return l
	}
	return append(l, p)
}

// someBook returns a random book that has a tree, of one of several kinds.
func someBook(r *rand.Rand) api.FamilyBook {
	switch r.IntN(3) {
	case 0:
		return grown(r, large)
	case 1:
		return grown(r, equal)
	}
	return nested(r)
}

// P8.10: what becomes of a book with a step more, with fewer changes of one, and with more changes of all steps to one variant.
func TestMore(t *testing.T) {
	r := rand.New(rand.NewPCG(8, 4))
	less, lower := 0, 0
	for range 600 {
		b := someBook(r)
		if b.Songs == 1 {
			continue
		}
		fewest, most := fewestOf(t, b), mostOf(t, b)
		more := b
		more.Steps = slices.Clone(b.Steps)
		if r.IntN(2) == 0 && len(b.Steps) < api.MaxFamilySteps {
			more.Steps = append(more.Steps, someStep(r, b, min(1+2*most, api.MaxFamilyChanges)))
		} else {
			s := &more.Steps[r.IntN(len(b.Steps))]
			s.Changes = r.Int64N(s.Changes + 1)
		}
		if fewestOf(t, more) > fewest || mostOf(t, more) > most {
			t.Fatal(b, more)
		}
		less += int(min(1, fewest-fewestOf(t, more)))
		lower += int(min(1, most-mostOf(t, more)))
		checkDearer(t, r, b, fewest)
	}
	if min(less, lower) < 20 {
		t.Error(less, lower)
	}
}

// checkDearer checks a book in which all steps to one variant have more changes.
func checkDearer(t *testing.T, r *rand.Rand, b api.FamilyBook, fewest int64) {
	t.Helper()
	dearer := b
	dearer.Steps = slices.Clone(b.Steps)
	song, more := r.IntN(b.Songs), r.Int64N(100)
	for i, s := range dearer.Steps {
		dearer.Steps[i].Changes = min(s.Changes, api.MaxFamilyChanges-more)
	}
	fewest, grades := fewestOf(t, dearer), gradesOf(t, dearer)
	for i, s := range dearer.Steps {
		if s.To == song {
			dearer.Steps[i].Changes += more
		}
	}
	if song == b.Root {
		more = 0
	}
	if got := fewestOf(t, dearer); got != fewest+more {
		t.Fatal(b, song, more, got, fewest)
	}
	if got := gradesOf(t, dearer); !slices.Equal(got, grades) {
		t.Fatal(b, song, more, got, grades)
	}
}

// P8.13: variants with other numbers.
func TestNamed(t *testing.T) {
	r := rand.New(rand.NewPCG(8, 5))
	for range 400 {
		b := someBook(r)
		name := r.Perm(b.Songs)
		other := api.FamilyBook{Songs: b.Songs, Root: name[b.Root]}
		for _, s := range b.Steps {
			other.Steps = append(other.Steps, api.FamilyStep{From: name[s.From], To: name[s.To], Changes: s.Changes})
		}
		if fewestOf(t, b) != fewestOf(t, other) || mostOf(t, b) != mostOf(t, other) {
			t.Fatal(b, other)
		}
		if !slices.Equal(gradesOf(t, b), gradesOf(t, other)) {
			t.Fatal(b, other)
		}
	}
}

// without returns a book without the steps that are meant.
func without(b api.FamilyBook, meant func(step int) bool) api.FamilyBook {
	out := b
	out.Steps = nil
	for step, s := range b.Steps {
		if !meant(step) {
			out.Steps = append(out.Steps, s)
		}
	}
	return out
}

// P8.4 to P8.8, P8.11, P8.12: on books up to the limits, the prices prove the fewest changes; a step is in all trees just if there is no such tree without it, and in some just if there is one with no other step to its variant.
func TestLarge(t *testing.T) {
	r := rand.New(rand.NewPCG(8, 6))
	seen, groups := map[int]int{}, 0
	for range 200 {
		b := someBook(r)
		fewest, grades := fewestOf(t, b), gradesOf(t, b)
		for step, s := range b.Steps {
			if s.To == b.Root {
				continue
			}
			others := func(i int) bool { return i != step && b.Steps[i].To == s.To }
			some := isAsCheap(without(b, others), fewest)
			all := !isAsCheap(without(b, func(i int) bool { return i == step }), fewest)
			if want := gradeOf(some, all); grades[step] != want {
				t.Fatal(b, step, grades, want)
			}
			seen[grades[step]]++
		}
		checkGrades(t, b, grades)
		checkMost(t, r, b)
		proof, _ := family.Prices(b)
		groups = max(groups, len(proof))
	}
	if len(seen) != 3 || min(seen[0], seen[1], seen[2]) < 500 || groups < 24 {
		t.Error(seen, groups)
	}
}

// isAsCheap tells whether a book has a tree with so few changes.
func isAsCheap(b api.FamilyBook, changes int64) bool {
	_, fewest, e := family.Cheapest(b)
	return e == api.OK && fewest <= changes
}

// checkMost checks that there is a tree with no larger steps than Most tells, and none with only smaller ones.
func checkMost(t *testing.T, r *rand.Rand, b api.FamilyBook) {
	t.Helper()
	most := mostOf(t, b)
	if b.Songs == 1 {
		return
	}
	larger := without(b, func(step int) bool { return b.Steps[step].Changes > most })
	smaller := without(b, func(step int) bool { return b.Steps[step].Changes >= most })
	if len(lostOf(larger)) > 0 || len(lostOf(smaller)) == 0 {
		t.Fatal(b, most)
	}
	for range 20 {
		if tree := someTree(r, b); changesOf(b, tree) >= 0 && largest(b, tree) < most {
			t.Fatal(b, tree, most)
		}
	}
}
