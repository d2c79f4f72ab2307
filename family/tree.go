package family

import (
	"slices"

	"mandrel/api"
)

// by returns the step by which the tree comes to a variant; none if it has no such step.
func (b *board) by(song int) api.FamilyStep {
	if !within(0, len(b.Steps)-1, b.tree[song]) {
		return api.FamilyStep{}
	}
	return b.Steps[b.tree[song]]
}

// fits tells whether the tree has a step to each variant but Root.
func (b *board) fits() bool {
	var none api.FamilyStep
	for song := range b.tree {
		s := b.by(song)
		if song != b.Root && (s == none || s.To != song) {
			return false
		}
	}
	return b.tree[b.Root] == -1
}

// leadsBack tells whether the steps of the tree lead back to Root from each variant, if it fits.
func (b *board) leadsBack() bool {
	var none api.FamilyStep
songs:
	for song := range b.tree {
		at := song
		for range b.tree {
			s := b.by(at)
			if s == none {
				continue songs
			}
			at = s.From
		}
		return false
	}
	return true
}

// changes returns the changes of the tree.
func (b *board) changes() int64 {
	var sum int64
	for song := range b.tree {
		sum += b.by(song).Changes
	}
	return sum
}

// grow makes a tree with the fewest changes, if the board has the prices of charge.
// From the variants that it has it goes on by the step of which nothing was left first. Variants of a group come from each other by steps that were so before any step into it: the tree goes into a group once, and has as many changes as the prices are together.
func (b *board) grow() {
	var rest group
	for song := range b.tree {
		rest[song] = song != b.Root
	}
	for rest != (group{}) {
		first := slices.IndexFunc(b.spent, func(step int) bool { return b.goes(step, rest) })
		step := b.spent[first]
		song := b.Steps[step].To
		b.tree[song], rest[song] = step, false
	}
}
