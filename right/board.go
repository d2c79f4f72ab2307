package right

import (
	"slices"

	"mandrel/api"
)

// board is a book with the asks that are granted, and with the facts that hold, so far as steps were used.
type board struct {
	api.RightBook
	granted []int
	holds   bits
}

// lay returns the board of a book with asks granted, and with the facts of Start.
func lay(b api.RightBook, granted ...int) (*board, api.Errno) {
	if e := CheckBook(b); e != api.OK {
		return nil, e
	}
	if !rising(len(b.Asks), granted) {
		return nil, api.ErrRange
	}
	return &board{b, granted, of(b.Start...)}, api.OK
}

// grant returns the board of the same book with other asks granted, and with all facts that hold then.
func (b *board) grant(asks []int) *board {
	d := &board{b.RightBook, asks, of(b.Start...)}
	d.settle()
	return d
}

// isSmall tells whether there are not too many of all things, and not too few.
func (b *board) isSmall() bool {
	if !within(1, api.MaxRightFacts, b.Facts) || len(b.Taboos) > api.MaxRightTaboos {
		return false
	}
	if len(b.Rules) > api.MaxRightRules || len(b.Asks) > api.MaxRightAsks {
		return false
	}
	for _, r := range slices.Concat(b.Rules, b.Asks) {
		if len(r.Needs) > api.MaxRightNeeds {
			return false
		}
	}
	for _, taboo := range b.Taboos {
		if !within(1, api.MaxRightNeeds, len(taboo)) {
			return false
		}
	}
	return true
}

// namesFacts tells whether all that the book names are facts, increasing where it lists them.
func (b *board) namesFacts() bool {
	for _, r := range slices.Concat(b.Rules, b.Asks) {
		if !rising(b.Facts, r.Needs) || !within(0, b.Facts-1, r.Gives) {
			return false
		}
	}
	return rising(b.Facts, b.Start) && rising(b.Facts, b.Taboos...)
}

// steps yields all rules, and the asks that are granted.
func (b *board) steps(yield func(api.RightStep) bool) {
	for rule := range b.Rules {
		if !yield(api.RightStep{Number: rule}) {
			return
		}
	}
	for _, ask := range b.granted {
		if !yield(api.RightStep{Ask: true, Number: ask}) {
			return
		}
	}
}

// isStep tells whether a step is the number of a rule, or of an ask that is granted.
func (b *board) isStep(s api.RightStep) bool {
	_, ok := first(b.steps, func(other api.RightStep) bool { return other == s })
	return ok
}

// rule returns the rule, or the ask, of a step.
func (b *board) rule(s api.RightStep) api.RightRule {
	if s.Ask {
		return b.Asks[s.Number]
	}
	return b.Rules[s.Number]
}

// isOpen tells whether all Needs of a step hold.
func (b *board) isOpen(s api.RightStep) bool { return b.holds.has(b.rule(s).Needs...) }

// news yields the steps that can be used, and whose Gives does not hold yet, by what holds when each one is looked at.
func (b *board) news(yield func(api.RightStep) bool) {
	for s := range b.steps {
		if !b.holds.has(b.rule(s).Gives) && b.isOpen(s) && !yield(s) {
			return
		}
	}
}

// use lets the Gives of a step hold, and returns it.
func (b *board) use(s api.RightStep) int {
	fact := b.rule(s).Gives
	b.holds.add(fact)
	return fact
}

// settle uses steps round after round, until a round brings nothing that did not hold before it.
func (b *board) settle() {
	for {
		before := b.holds
		for s := range b.news {
			b.use(s)
		}
		if b.holds == before {
			return
		}
	}
}

// isBroken tells whether all facts of a taboo hold.
func (b *board) isBroken(taboo []int) bool { return b.holds.has(taboo...) }

// broken returns the least number of a taboo that is broken, -1 if none is.
func (b *board) broken() int { return slices.IndexFunc(b.Taboos, b.isBroken) }

// isSafe tells whether no taboo is broken if asks are granted.
func (b *board) isSafe(asks []int) bool { return b.grant(asks).broken() < 0 }
