package family

import (
	"iter"
	"slices"
	"sort"

	"mandrel/api"
)

// board is a valid book with what prices of groups leave of the Changes of its steps, and with a number for each variant, as a tree has them.
type board struct {
	api.FamilyBook
	left   []int64
	prices map[group]int64
	spent  []int // the steps of which prices left nothing, in the order in which this came to be
	tree   []int
}

// lay returns the board of a book, without prices, and without steps in its tree.
func lay(b api.FamilyBook) (*board, api.Errno) {
	if e := CheckBook(b); e != api.OK {
		return nil, e
	}
	return blank(b), api.OK
}

// blank returns the board of a valid book.
func blank(b api.FamilyBook) *board {
	d := &board{FamilyBook: b, prices: map[group]int64{}, tree: slices.Repeat([]int{-1}, b.Songs)}
	for _, s := range b.Steps {
		d.left = append(d.left, s.Changes)
	}
	return d
}

// rooted returns the board of a book that has a tree.
func rooted(b api.FamilyBook) (*board, api.Errno) {
	d, e := lay(b)
	if e != api.OK {
		return nil, e
	}
	if !d.isWhole(d.every) {
		return nil, api.ErrPlan
	}
	return d, api.OK
}

// priced returns the board of a book that has a tree, with prices that prove how many changes it has at least.
func priced(b api.FamilyBook) (*board, api.Errno) {
	d, e := rooted(b)
	if e != api.OK {
		return nil, e
	}
	d.charge()
	return d, api.OK
}

// every means all steps.
func (b *board) every(int) bool { return true }

// used tells whether nothing is left of a step.
func (b *board) used(step int) bool { return b.left[step] == 0 }

// rest returns what is left of a step.
func (b *board) rest(step int) int64 { return b.left[step] }

// goes tells whether a step goes into a group.
func (b *board) goes(step int, g group) bool {
	s := b.Steps[step]
	return g[s.To] && !g[s.From]
}

// into yields the steps that go into a group.
func (b *board) into(g group) iter.Seq[int] {
	return func(yield func(int) bool) {
		for step := range b.Steps {
			if b.goes(step, g) && !yield(step) {
				return
			}
		}
	}
}

// weave returns which variants come from which ones by steps that are meant.
func (b *board) weave(meant func(step int) bool) web {
	var w web
	for song := range w {
		w[song] = of(song)
	}
	for grown := true; grown; {
		grown = false
		for step, s := range b.Steps {
			if !meant(step) {
				continue
			}
			if row := w[s.To].with(w[s.From]); row != w[s.To] {
				w[s.To], grown = row, true
			}
		}
	}
	return w
}

// lost returns the variants that do not come from Root, increasing.
func (b *board) lost(w web) []int {
	var lost []int
	for song := range b.Songs {
		if !w[song][b.Root] {
			lost = append(lost, song)
		}
	}
	return lost
}

// isWhole tells whether all variants come from Root by steps that are meant.
func (b *board) isWhole(meant func(step int) bool) bool {
	return len(b.lost(b.weave(meant))) == 0
}

// most returns the least number so that there is a tree of which no step has more Changes, if there is a tree.
func (b *board) most() int64 {
	limits := []int64{0}
	for _, s := range b.Steps {
		limits = append(limits, s.Changes)
	}
	slices.Sort(limits)
	enough := func(i int) bool {
		return b.isWhole(func(step int) bool { return b.Steps[step].Changes <= limits[i] })
	}
	return limits[sort.Search(len(limits), enough)]
}
