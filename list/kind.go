package list

import (
	"iter"
	"slices"

	"mandrel/api"
)

// question is a link to be asked, and how many links of the kind ListMay are left after asking.
type question struct {
	name, rest int
}

// size returns how many links are left after a question.
func (q question) size() int { return q.rest }

// kind returns the kind of a link of a board with a greatest joining.
func (b *board) kind(name int) int {
	size := b.size()
	if b.without(name).size() < size {
		return api.ListAlways
	}
	if !b.open[name] || b.with(name).size() < size {
		return api.ListNever
	}
	return api.ListMay
}

// kinds returns the kinds of all links.
func (b *board) kinds() []int {
	var kinds []int
	for name := range b.Links {
		kinds = append(kinds, b.kind(name))
	}
	return kinds
}

// itemKinds returns the kinds of all items of a list.
func (b *board) itemKinds(list int) []int {
	of := b.kinds()
	used := func(name int) bool { return of[name] != api.ListNever }
	var kinds []int
	for _, s := range b.items(list) {
		names := slices.Collect(b.links(s, used))
		switch {
		case len(names) == 0:
			kinds = append(kinds, api.ListNever)
		case b.without(names...).size() < b.size():
			kinds = append(kinds, api.ListAlways)
		default:
			kinds = append(kinds, api.ListMay)
		}
	}
	return kinds
}

// questions yields a question for each link of the kind ListMay.
func (b *board) questions() iter.Seq[question] {
	return func(yield func(question) bool) {
		for name, kind := range b.kinds() {
			if kind != api.ListMay {
				continue
			}
			yes, no := b.with(name), b.without(name)
			if !yield(question{name, max(yes.unsure(), no.unsure())}) {
				return
			}
		}
	}
}

// unsure returns how many links have the kind ListMay.
func (b *board) unsure() int {
	count := 0
	for _, kind := range b.kinds() {
		if kind == api.ListMay {
			count++
		}
	}
	return count
}
