package family

import (
	"slices"

	"mandrel/api"
)

// isGroup tells whether variants can be a group that has a price.
func (b *board) isGroup(songs []int) bool {
	return len(songs) > 0 && rising(songs) && within(0, b.Songs-1, songs...) && !slices.Contains(songs, b.Root)
}

// take gives a group a price, and takes it from what is left of the steps into it.
func (b *board) take(g group, price int64) {
	b.prices[g] += price
	for step := range b.into(g) {
		b.left[step] -= price
	}
}

// isRight tells whether the prices are right.
func (b *board) isRight() bool {
	below := func(left int64) bool { return left < 0 }
	return !slices.ContainsFunc(b.left, below)
}

// bound returns the sum of all prices.
func (b *board) bound() int64 {
	var sum int64
	for _, price := range b.prices {
		sum += price
	}
	return sum
}

// list returns the groups with their prices, but for those without a price, which it takes out.
func (b *board) list() []api.FamilyPrice {
	var l []api.FamilyPrice
	for g, price := range b.prices {
		if price == 0 {
			delete(b.prices, g)
			continue
		}
		l = append(l, api.FamilyPrice{Songs: g.songs(), Price: price})
	}
	slices.SortFunc(l, func(x, y api.FamilyPrice) int { return slices.Compare(x.Songs, y.Songs) })
	return l
}

// charge prices groups until all variants come from Root by steps of which nothing is left, if there is a tree.
// Each variant alone comes first, so that nothing below 0 is left of any step after that, even if some have less than no changes.
func (b *board) charge() {
	for song := range b.Songs {
		if song != b.Root {
			b.price(of(song))
		}
	}
	for g, ok := b.apart(); ok; g, ok = b.apart() {
		b.price(g)
	}
}

// apart returns a group into which no step goes of which nothing is left; not ok if all variants come from Root by such steps.
// Of all groups of variants from which one comes by such steps it is a smallest one, so that all its variants come from each other.
func (b *board) apart() (group, bool) {
	w := b.weave(b.used)
	song, ok := least(slices.Values(b.lost(w)), func(song int) int { return len(w[song].songs()) })
	return w[song], ok
}

// price gives a group as great a price as the steps into it can bear.
func (b *board) price(g group) {
	cheapest, _ := least(b.into(g), b.rest)
	b.take(g, b.left[cheapest])
	for step := range b.into(g) {
		if b.used(step) {
			b.spent = append(b.spent, step)
		}
	}
}

// grade returns the grade of a step, if the board has the prices of charge.
// If it had one change more, the fewest changes would be more only if all trees that have them have the step; if one less, fewer only if some do.
func (b *board) grade(step int) int {
	switch {
	case !b.used(step):
		return 0
	case b.fewest(step, 1) > b.bound():
		return 2
	case b.fewest(step, -1) < b.bound():
		return 1
	}
	return 0
}

// fewest returns the fewest changes of a tree if a step had so many more.
func (b *board) fewest(step int, more int64) int64 {
	d := blank(b.FamilyBook)
	d.left[step] += more
	d.charge()
	return d.bound()
}
