package play

import (
	"iter"
	"slices"

	"mandrel/api"
)

// row is what the stretches with the same last turn are worth, at their first turns.
type row [api.MaxPlayTurns]int64

// board is a valid cylinder with what its stretches are worth: a row for each last turn.
type board struct {
	api.PlayCylinder
	worths [api.MaxPlayTurns]row
}

// lay returns the board of a cylinder.
func lay(c api.PlayCylinder) (*board, api.Errno) {
	if e := CheckCylinder(c); e != api.OK {
		return nil, e
	}
	b := &board{PlayCylinder: c}
	b.price(b.worth)
	return b, api.OK
}

// follow returns the board of a cylinder of which stretches are a plan.
func follow(c api.PlayCylinder, plan []api.PlayStretch) (*board, api.Errno) {
	b, e := lay(c)
	if e != api.OK {
		return nil, e
	}
	if len(plan) > b.Plays {
		return nil, api.ErrMany
	}
	next := 0
	for _, s := range plan {
		if e := b.check(s, next); e != api.OK {
			return nil, e
		}
		next = s.To + 1
	}
	return b, api.OK
}

// check reports whether a stretch can be played, if next is the turn behind the last one that was played.
func (b *board) check(s api.PlayStretch, next int) api.Errno {
	inside := func(turn int) bool { return within(s.From, s.To, turn) }
	switch {
	case !areTurns(b.PlayCylinder, s.From, s.To):
		return api.ErrRange
	case s.To-s.From >= b.Long:
		return api.ErrArg
	case s.From < next || slices.ContainsFunc(b.Fragile, inside):
		return api.ErrWorn
	}
	return api.OK
}

// worth returns what a passage is worth.
func (b *board) worth(passage int) int64 { return b.Passages[passage].Worth }

// price finds what stretches are worth, if passages are worth what is told of them.
func (b *board) price(worth func(passage int) int64) {
	for last := range b.Turns {
		r := &b.worths[last]
		clear(r[:])
		for s := range b.stretches(last) {
			for _, passage := range b.saved(s) {
				r[s.From] += worth(passage)
			}
		}
	}
}

// stretches yields the stretches with this last turn, the shortest one first.
func (b *board) stretches(last int) iter.Seq[api.PlayStretch] {
	return func(yield func(api.PlayStretch) bool) {
	search:
		for first := last; first > max(-1, last-b.Long); first-- {
			switch {
			case slices.Contains(b.Fragile, first):
				break search
			case !yield(api.PlayStretch{From: first, To: last}):
				return
			}
		}
	}
}

// saved returns the passages that stretches save, increasing.
func (b *board) saved(stretches ...api.PlayStretch) []int {
	var passages []int
	for passage, p := range b.Passages {
		saves := func(s api.PlayStretch) bool { return within(s.From, s.To, p.From, p.To) }
		if slices.ContainsFunc(stretches, saves) {
			passages = append(passages, passage)
		}
	}
	return passages
}

// kind returns the kind of a passage.
// If it were worth a little less, best plans would be worth less only if each one saves it; if a little more, worth more only if some do.
func (b *board) kind(passage int) int {
	best := b.twice(passage, 0)
	switch {
	case b.twice(passage, -1) < best:
		return api.PlayAlways
	case b.twice(passage, 1) > best:
		return api.PlayMay
	}
	return api.PlayNever
}

// twice returns what a best plan is worth if all passages are worth twice as much, and one of them so much more than that.
// Since other plans are then worth less by at least 2, none of them becomes better than the best ones if the passage is worth one more or one less.
func (b *board) twice(passage int, more int64) int64 {
	b.price(func(p int) int64 {
		if p == passage {
			return 2*b.worth(p) + more
		}
		return 2 * b.worth(p)
	})
	return b.draw().bound()
}
