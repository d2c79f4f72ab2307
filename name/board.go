package name

import (
	"iter"
	"slices"

	"mandrel/api"
)

// amounts is an amount for each name.
type amounts [api.MaxNameNames]int64

// board is a valid list with a flow. Links that are dropped have no Trust there, so that nothing can flow through them.
type board struct {
	api.NameList
	flow api.NameFlow
}

// lay returns the board of a list without a drop, and nothing flows.
func lay(l api.NameList, drop ...int) (*board, api.Errno) {
	if e := CheckList(l); e != api.OK {
		return nil, e
	}
	if !rising(len(l.Links), drop) {
		return nil, api.ErrRange
	}
	links := make([]api.NameLink, len(l.Links))
	copy(links, l.Links)
	for _, link := range drop {
		links[link].Trust = 0
	}
	l.Links = links
	return &board{l, make(api.NameFlow, len(links))}, api.OK
}

// flood returns the board of a list with a flow that is as great as any.
func flood(l api.NameList) (*board, api.Errno) {
	b, e := lay(l)
	if e != api.OK {
		return nil, e
	}
	b.fill()
	return b, api.OK
}

// ways yields the ways on from a name.
func (b *board) ways(from int) iter.Seq[way] {
	return func(yield func(way) bool) {
		for link, l := range b.Links {
			w := way{link, l.One, l.Two}
			if l.Two == from {
				w = w.back()
			}
			if w.from == from && !yield(w) {
				return
			}
		}
	}
}

// room returns how much more can flow along a way.
func (b *board) room(w way) int64 {
	l := b.Links[w.link]
	if w.from == l.One {
		return l.Trust - b.flow[w.link]
	}
	return l.Trust + b.flow[w.link]
}

// open tells whether more can flow along a way.
func (b *board) open(w way) bool { return b.room(w) > 0 }

// openBack tells whether more can flow along a way in the other direction.
func (b *board) openBack(w way) bool { return b.open(w.back()) }

// send makes so much more flow along a way.
func (b *board) send(w way, amount int64) {
	if w.from == b.Links[w.link].One {
		b.flow[w.link] += amount
	} else {
		b.flow[w.link] -= amount
	}
}

// fill sends all that ways through can take: the flow is as great as any when there is none.
func (b *board) fill() {
	for ways, ok := b.through(); ok; ways, ok = b.through() {
		amount := b.room(ways[0])
		for _, w := range ways {
			amount = min(amount, b.room(w))
		}
		for _, w := range ways {
			b.send(w, amount)
		}
	}
}

// out returns what flows out of each name that is meant.
func (b *board) out(meant func(name int) bool) amounts {
	var out amounts
	for link, n := range b.flow {
		l := b.Links[link]
		if meant(l.One) {
			out[l.One] += n
		}
		if meant(l.Two) {
			out[l.Two] -= n
		}
	}
	return out
}

// fits tells whether no more than its Trust flows through each link.
func (b *board) fits() bool {
	for link, n := range b.flow {
		trust := b.Links[link].Trust
		if !within(-trust, trust, n) {
			return false
		}
	}
	return true
}

// isRight tells whether nothing is left of the flow at names that are neither in Left nor in Right.
func (b *board) isRight() bool {
	left, right := in(b.Left), in(b.Right)
	between := func(name int) bool { return !left(name) && !right(name) }
	return b.out(between) == amounts{}
}

// great returns how great the flow is.
func (b *board) great() int64 {
	var great int64
	for _, n := range b.out(in(b.Left)) {
		great += n
	}
	return great
}

// names returns the names that are meant, increasing.
func (b *board) names(meant func(name int) bool) []int {
	var all [api.MaxNameNames]int
	side := all[:0:b.Names]
	for name := range b.Names {
		if meant(name) {
			side = append(side, name)
		}
	}
	names := make([]int, len(side))
	copy(names, side)
	return names
}

// cut returns the links that a side cuts, and what it costs.
func (b *board) cut(side []int) (links []int, cost int64) {
	for link, l := range b.Links {
		if slices.Contains(side, l.One) != slices.Contains(side, l.Two) {
			links = append(links, link)
			cost += l.Trust
		}
	}
	return links, cost
}
