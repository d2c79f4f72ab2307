package word_test

import (
	"maps"
	"math/rand/v2"
	"slices"
	"testing"

	"mandrel/api"
	"mandrel/word"
)

// random returns a dictionary, and so many lines of at most so many words, of few words or many.
func random(r *rand.Rand, hearers, most int) (api.WordBook, [][]int) {
	words := 1 + r.IntN(1+r.IntN(8))
	first := []int{1, 40, api.MaxWord - words + 1}[r.IntN(3)]
	pick := func() int { return first + r.IntN(words) }
	var b api.WordBook
	for range r.IntN(1 + words/2) {
		b.Likes = append(b.Likes, [2]int{pick(), pick()})
	}
	lines := make([][]int, hearers)
	for i := range lines {
		for range r.IntN(most + 1) {
			lines[i] = append(lines[i], pick())
		}
	}
	return b, lines
}

// alike returns the words that are alike to one, by going on from pair to pair.
func alike(b api.WordBook, one int) map[int]bool {
	seen := map[int]bool{one: true}
	for n := 0; n < len(seen); {
		n = len(seen)
		for _, p := range b.Likes {
			if seen[p[0]] || seen[p[1]] {
				seen[p[0]], seen[p[1]] = true, true
			}
		}
	}
	return seen
}

// combined returns all lists with an index for each line, in order.
func combined(lines [][]int) []api.WordMatch {
	all := []api.WordMatch{{}}
	for _, line := range lines {
		var longer []api.WordMatch
		for _, m := range all {
			for i := range line {
				longer = append(longer, append(slices.Clone(m), i))
			}
		}
		all = longer
	}
	return all
}

// matched returns all matches in order, by looking at all lists of indexes.
func matched(b api.WordBook, lines [][]int) []api.WordMatch {
	var l []api.WordMatch
	for _, m := range combined(lines) {
		seen := alike(b, lines[0][m[0]])
		good := true
		for h, i := range m {
			good = good && seen[lines[h][i]]
		}
		if good {
			l = append(l, m)
		}
	}
	return l
}

// before tells whether a match comes before another one.
func before(one, two api.WordMatch) bool {
	for h := range one {
		if one[h] >= two[h] {
			return false
		}
	}
	return true
}

// passages returns all passages of matches, in lexicographic order.
func passages(l []api.WordMatch) [][]api.WordMatch {
	all := [][]api.WordMatch{nil}
	var grow func(p []api.WordMatch)
	grow = func(p []api.WordMatch) {
		for _, m := range l {
			if len(p) == 0 || before(p[len(p)-1], m) {
				longer := append(slices.Clone(p), m)
				all = append(all, longer)
				grow(longer)
			}
		}
	}
	grow(nil)
	return all
}

// longest returns all longest passages of matches, in lexicographic order.
func longest(l []api.WordMatch) [][]api.WordMatch {
	var best [][]api.WordMatch
	for _, p := range passages(l) {
		if len(best) > 0 && len(p) > len(best[0]) {
			best = nil
		}
		if len(best) == 0 || len(p) == len(best[0]) {
			best = append(best, p)
		}
	}
	return best
}

// has tells whether a passage has a match.
func has(p []api.WordMatch, m api.WordMatch) bool {
	return slices.ContainsFunc(p, func(n api.WordMatch) bool { return slices.Equal(m, n) })
}

// least returns the least levels, by making them greater where they are wrong.
func least(l []api.WordMatch) []int {
	levels := long(1, len(l))
	for again := true; again; {
		again = false
		for i, m := range l {
			for k, n := range l {
				if before(m, n) && levels[k] <= levels[i] {
					levels[k], again = levels[i]+1, true
				}
			}
		}
	}
	return levels
}

// P4.4, P4.6 to P4.10: what is told of short lines is what all their passages say.
func TestAllPassages(t *testing.T) {
	r := rand.New(rand.NewPCG(4, 1))
	seen := map[int]int{}
	for i := range 3000 {
		b, lines := random(r, 2+i%3, 8-2*(i%3))
		l := matched(b, lines)
		best := longest(l)
		if got, e := word.Matches(b, lines); !equal(got, l) || e != api.OK {
			t.Fatal(b, lines, got, e)
		}
		if got, e := word.Longest(b, lines); !equal(got, best[0]) || e != api.OK {
			t.Fatal(b, lines, got, e, best[0])
		}
		if n, e := word.Count(b, lines); n != int64(len(best)) || e != api.OK {
			t.Fatal(b, lines, n, e, len(best))
		}
		if got, e := word.Levels(b, lines); !slices.Equal(got, least(l)) || e != api.OK {
			t.Fatal(b, lines, got, e)
		}
		var certain []api.WordMatch
		for _, m := range l {
			if !slices.ContainsFunc(best, func(p []api.WordMatch) bool { return !has(p, m) }) {
				certain = append(certain, m)
			}
		}
		if got, e := word.Certain(b, lines); !equal(got, certain) || e != api.OK {
			t.Fatal(b, lines, got, e, certain)
		}
		for hearer := range lines {
			want := graded(lines, hearer, best)
			if got, e := word.Grades(b, lines, hearer); !slices.Equal(got, want) || e != api.OK {
				t.Fatal(b, lines, hearer, got, e, want)
			}
			for _, grade := range want {
				seen[grade]++
			}
		}
	}
	if seen[0] < 1000 || seen[1] < 1000 || seen[2] < 1000 {
		t.Error(seen)
	}
}

// graded returns the grades of a hearer's words, by looking at all longest passages.
func graded(lines [][]int, hearer int, best [][]api.WordMatch) []int {
	var grades []int
	for i := range lines[hearer] {
		count := 0
		for _, p := range best {
			if slices.ContainsFunc(p, func(m api.WordMatch) bool { return m[hearer] == i }) {
				count++
			}
		}
		switch count {
		case 0:
			grades = append(grades, 0)
		case len(best):
			grades = append(grades, 2)
		default:
			grades = append(grades, 1)
		}
	}
	return grades
}

// P4.5: lists of matches, most of them in order, are passages just if each one comes before the next one.
func TestAnyPassage(t *testing.T) {
	r := rand.New(rand.NewPCG(4, 2))
	count := 0
	for range 20000 {
		b, lines := random(r, 2+r.IntN(3), 5)
		l := matched(b, lines)
		if len(l) == 0 {
			continue
		}
		var p []api.WordMatch
		for range 1 + r.IntN(3) {
			p = append(p, l[r.IntN(len(l))])
		}
		slices.SortFunc(p, slices.Compare[api.WordMatch])
		want := api.OK
		for i := range p[1:] {
			if !before(p[i], p[i+1]) {
				want = api.ErrOrder
			}
		}
		if want == api.OK && len(p) > 1 {
			count++
		}
		if e := word.CheckPassage(b, lines, p); e != want {
			t.Fatal(b, lines, p, e)
		}
	}
	if count < 200 {
		t.Error(count)
	}
}

// P4.8, P4.11: levels are right just if all pairs of matches say so, and no passage has more matches than their bound.
func TestAnyLevels(t *testing.T) {
	r := rand.New(rand.NewPCG(4, 3))
	count := 0
	for range 4000 {
		b, lines := random(r, 2+r.IntN(3), 5)
		l := matched(b, lines)
		levels := least(l)
		for range r.IntN(4) {
			if len(l) > 0 {
				levels[r.IntN(len(l))] += r.IntN(4) - 1
			}
		}
		want := api.OK
		for i, m := range l {
			for k, n := range l {
				if levels[i] < 1 || before(m, n) && levels[i] >= levels[k] {
					want = api.ErrSum
				}
			}
		}
		bound, e := word.CheckLevels(b, lines, levels)
		if e != want {
			t.Fatal(b, lines, levels, e)
		}
		p, _ := word.Longest(b, lines)
		if e == api.OK && (len(l) > 0 && bound != slices.Max(levels) || len(p) > bound) {
			t.Fatal(b, lines, levels, bound, p)
		}
		if e == api.OK && bound > len(p) {
			count++
		}
	}
	if count < 200 {
		t.Error(count)
	}
}

// wide returns a dictionary and lines up to the limits.
func wide(r *rand.Rand) (api.WordBook, [][]int) { return random(r, 2+r.IntN(3), api.MaxWordText) }

// length returns how many matches longest passages have.
func length(t *testing.T, b api.WordBook, lines [][]int) int {
	t.Helper()
	l, e := word.Longest(b, lines)
	if e != api.OK || word.CheckPassage(b, lines, l) != api.OK {
		t.Fatal(b, lines, l, e)
	}
	return len(l)
}

// P4.11, P4.12: the bound of the least levels proves the longest passage, and what is certain is a passage of words with the grade 2.
func TestProved(t *testing.T) {
	r := rand.New(rand.NewPCG(4, 4))
	for range 400 {
		b, lines := wide(r)
		levels, e := word.Levels(b, lines)
		bound, f := word.CheckLevels(b, lines, levels)
		first, _ := word.Longest(b, lines)
		if bound != length(t, b, lines) || e != api.OK || f != api.OK {
			t.Fatal(b, lines, bound, e, f)
		}
		certain, g := word.Certain(b, lines)
		if g != api.OK || word.CheckPassage(b, lines, certain) != api.OK {
			t.Fatal(b, lines, certain, g)
		}
		for _, m := range certain {
			if !has(first, m) {
				t.Fatal(b, lines, m, first)
			}
			for hearer, i := range m {
				if grades, _ := word.Grades(b, lines, hearer); grades[i] != 2 {
					t.Fatal(b, lines, m, grades)
				}
			}
		}
		if n, e := word.Count(b, lines); (n == 1) != equal(certain, first) || e != api.OK {
			t.Fatal(b, lines, n, certain, first)
		}
	}
}

// P4.13: one hearer, one pair or one word more.
func TestMore(t *testing.T) {
	r := rand.New(rand.NewPCG(4, 5))
	for range 400 {
		b, lines := random(r, 2+r.IntN(2), api.MaxWordText-1)
		n := length(t, b, lines)
		_, more := wide(r)
		if m := length(t, b, append(slices.Clone(lines), more[0])); m > n {
			t.Fatal(b, lines, more[0], n, m)
		}
		words := append(slices.Concat(lines...), 1, 50)
		pick := func() int { return words[r.IntN(len(words))] }
		if m := length(t, api.WordBook{Likes: append(slices.Clone(b.Likes), [2]int{pick(), pick()})}, lines); m < n {
			t.Fatal(b, lines, n, m)
		}
		hearer := r.IntN(len(lines))
		longer := slices.Clone(lines)
		longer[hearer] = slices.Insert(slices.Clone(lines[hearer]), r.IntN(len(lines[hearer])+1), pick())
		if m := length(t, b, longer); m < n {
			t.Fatal(b, lines, longer, n, m)
		}
	}
}

// P4.14: lines that are read from their ends, and hearers in other places.
func TestTurned(t *testing.T) {
	r := rand.New(rand.NewPCG(4, 6))
	for range 300 {
		b, lines := wide(r)
		places := r.Perm(len(lines))
		var turned, moved [][]int
		for i, line := range lines {
			line = slices.Clone(line)
			slices.Reverse(line)
			turned = append(turned, line)
			moved = append(moved, lines[places[i]])
		}
		n, _ := word.Count(b, lines)
		for _, other := range [][][]int{turned, moved} {
			if m, _ := word.Count(b, other); m != n || length(t, b, other) != length(t, b, lines) {
				t.Fatal(b, lines, other, n, m)
			}
		}
		for i := range lines {
			is, _ := word.Grades(b, lines, places[i])
			if l, _ := word.Grades(b, moved, i); !slices.Equal(l, is) {
				t.Fatal(b, lines, places, i, l, is)
			}
			l, _ := word.Grades(b, turned, places[i])
			slices.Reverse(l)
			if !slices.Equal(l, is) {
				t.Fatal(b, lines, places[i], l, is)
			}
		}
	}
}

// P4.15: alike words may be written for each other, and what is alike to the same is alike.
func TestAlikeWords(t *testing.T) {
	r := rand.New(rand.NewPCG(4, 7))
	for range 400 {
		b, lines := wide(r)
		other := make([][]int, len(lines))
		for h, line := range lines {
			for _, w := range line {
				kin := slices.Sorted(maps.Keys(alike(b, w)))
				other[h] = append(other[h], kin[r.IntN(len(kin))])
			}
		}
		l, _ := word.Matches(b, lines)
		if m, e := word.Matches(b, other); !equal(l, m) || e != api.OK {
			t.Fatal(b, lines, other, l, m)
		}
	}
}

// P4.2, P4.15: all pairs of words are alike just if pairs of the Likes lead from the one to the other one.
func TestAlikeAll(t *testing.T) {
	r := rand.New(rand.NewPCG(4, 8))
	for range 20 {
		var b api.WordBook
		words := 2 + r.IntN(api.MaxWord-1)
		for range r.IntN(api.MaxWordLikes + 1) {
			b.Likes = append(b.Likes, [2]int{1 + r.IntN(words), 1 + r.IntN(words)})
		}
		for one := 1; one <= api.MaxWord; one++ {
			seen := alike(b, one)
			for two := 1; two <= api.MaxWord; two++ {
				if is, e := word.Alike(b, one, two); is != seen[two] || e != api.OK {
					t.Fatal(b, one, two, is, e)
				}
			}
		}
	}
}
