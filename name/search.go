package name

import (
	"maps"
	"slices"
)

// way is a way along a link, from one of its names to the other one. A way without a value leads nowhere, and is none.
type way struct {
	link, from, to int
}

// back returns the way along the same link in the other direction.
func (w way) back() way { return way{w.link, w.to, w.from} }

// trail tells by which way a search came to each name that it reached; none for those with which it began.
type trail map[int]way

// has tells whether a search reached a name.
func (t trail) has(name int) bool {
	_, ok := t[name]
	return ok
}

// take returns the ways by which a search came to a name, and takes them out of the trail.
func (t trail) take(name int) []way {
	var none way
	var ways []way
	for w := t[name]; w != none; w = t[w.from] {
		ways = append(ways, w)
		delete(t, w.to)
	}
	slices.Reverse(ways)
	return ways
}

// search goes from some names along ways that are open. It ends at the first name it comes to that is meant; not ok if there is none.
func (b *board) search(from []int, open func(way) bool, meant func(name int) bool) (came trail, end int, ok bool) {
	came = trail{}
	for _, name := range from {
		came[name] = way{}
	}
	reached := slices.Clone(from)
search:
	for at := 0; at < len(reached); at++ {
		for w := range b.ways(reached[at]) {
			if came.has(w.to) || !open(w) {
				continue
			}
			came[w.to] = w
			reached = append(reached, w.to)
			if meant(w.to) {
				end, ok = w.to, true
				break search
			}
		}
	}
	return came, end, ok
}

// through returns ways that are open, each going on where the one before it ends, from a name of Left to one of Right; not ok if there are none.
func (b *board) through() ([]way, bool) {
	came, end, ok := b.search(b.Left, b.open, in(b.Right))
	if !ok {
		return nil, false
	}
	return came.take(end), true
}

// reach returns the trail to all names that can be reached from some.
func (b *board) reach(from []int, open func(way) bool) trail {
	came, _, _ := b.search(from, open, in(nil))
	return came
}

// groups returns the groups of names that ways join.
func (b *board) groups() [][]int {
	var groups [][]int
	grouped := trail{}
	for name := range b.Names {
		if grouped.has(name) {
			continue
		}
		came := b.reach([]int{name}, b.open)
		groups = append(groups, b.names(came.has))
		maps.Copy(grouped, came)
	}
	return groups
}

// isChain tells whether names are a chain.
func (b *board) isChain(chain []int) bool {
	if !slices.Contains(b.Left, chain[0]) || !slices.Contains(b.Right, chain[len(chain)-1]) {
		return false
	}
	for i, name := range chain[1:] {
		joins := func(w way) bool { return w.to == name && b.open(w) }
		if _, ok := first(b.ways(chain[i]), joins); !ok {
			return false
		}
	}
	return true
}

// least returns the least one of the cheapest sides, if the flow is as great as any.
// Each link from a name there to another one is full, so the side costs what flows, and no side costs less; one that costs as little has all these names.
func (b *board) least() []int {
	return b.names(b.reach(b.Left, b.open).has)
}

// sides returns for each name on which side it is in all cheapest sides, if the flow is as great as any.
// In the greatest one of them are all names from which no name of Right can be reached.
func (b *board) sides() []int {
	always, never := b.reach(b.Left, b.open), b.reach(b.Right, b.openBack)
	var sides []int
	for name := range b.Names {
		switch {
		case always.has(name):
			sides = append(sides, 1)
		case never.has(name):
			sides = append(sides, -1)
		default:
			sides = append(sides, 0)
		}
	}
	return sides
}
