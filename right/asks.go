package right

import "slices"

// decide grants asks one after another, and returns for each one -1, or the taboo by which it is refused.
func (b *board) decide() []int {
	var granted, answers []int
	for ask := range b.Asks {
		next := b.grant(append(granted[:len(granted):len(granted)], ask))
		taboo := next.broken()
		if taboo < 0 {
			granted = next.granted
		}
		answers = append(answers, taboo)
	}
	return answers
}

// largest returns the first one of the longest lists of asks that are good. The list without asks is.
func (b *board) largest(good func(asks []int) bool) []int {
	for size := len(b.Asks); size > 0; size-- {
		if asks, ok := first(choices(len(b.Asks), size), good); ok {
			return asks
		}
	}
	return nil
}

// conflicts returns all conflicts that have no other one in them.
// Each list of asks that is not safe has one of these in it: if one ask of each of these is refused, all others are safe together.
func (b *board) conflicts() [][]int {
	var all [][]int
	for size := range len(b.Asks) + 1 {
		for asks := range choices(len(b.Asks), size) {
			if hasNone(all, asks) && !b.isSafe(asks) {
				all = append(all, asks)
			}
		}
	}
	return all
}

// hasNone tells whether asks have none of some conflicts in them.
func hasNone(conflicts [][]int, asks []int) bool {
	in := of(asks...)
	return !slices.ContainsFunc(conflicts, func(conflict []int) bool { return in.has(conflict...) })
}

// refusals returns how many refusals some conflicts need: all asks but those of a longest list that has none of them in it.
func (b *board) refusals(conflicts [][]int) int {
	granted := b.largest(func(asks []int) bool { return hasNone(conflicts, asks) })
	return len(b.Asks) - len(granted)
}
