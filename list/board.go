package list

import (
	"iter"
	"slices"

	"mandrel/api"
)

// The two lists of a sheet.
const (
	leftList  = 0
	rightList = 1
)

// none is instead of the name of a link where there is no link.
const none = -1

// side is an item on its side of the sheet.
type side struct {
	list, item int
}

// partners is for each item of both lists the name of the link by which it has a partner, or none.
type partners [2][api.MaxListItems]int

// board is a valid sheet with the partners of its items: with a joining.
type board struct {
	api.ListSheet
	by     partners
	open   [api.MaxListLinks]bool // the links that joinings may have, and need not have
	looked map[side]bool          // the items at which a search has looked; boards made from each other share it
}

// lay returns the board of a sheet on which only the links that are known join items.
func lay(s api.ListSheet) (*board, api.Errno) {
	if e := CheckSheet(s); e != api.OK {
		return nil, e
	}
	b := &board{ListSheet: s, looked: map[side]bool{}}
	for list := range b.by {
		for item := range b.by[list] {
			b.by[list][item] = none
		}
	}
	for name := range b.Links {
		b.open[name] = true
	}
	for _, name := range b.Known {
		b.know(name)
	}
	return b, api.OK
}

// join returns the board of a sheet with a greatest joining.
func join(s api.ListSheet) (*board, api.Errno) {
	b, e := lay(s)
	if e != api.OK {
		return nil, e
	}
	b.grow(b.items(leftList)...)
	return b, api.OK
}

// items returns the items of a list.
func (b *board) items(list int) []side {
	count := [2]int{b.Left, b.Right}[list]
	var items []side
	for item := range count {
		items = append(items, side{list, item})
	}
	return items
}

// ends returns the items of a link, at the indexes of their lists.
func (b *board) ends(name int) [2]side {
	link := b.Links[name]
	return [2]side{{leftList, link.Left}, {rightList, link.Right}}
}

// links yields the names of the links of an item that are allowed.
func (b *board) links(s side, allowed func(name int) bool) iter.Seq[int] {
	return func(yield func(name int) bool) {
		for name := range b.Links {
			if b.ends(name)[s.list] == s && allowed(name) && !yield(name) {
				return
			}
		}
	}
}

// isOpen tells whether a link is open.
func (b *board) isOpen(name int) bool { return b.open[name] }

// partner returns the link by which an item has a partner, or none.
func (b *board) partner(s side) int { return b.by[s.list][s.item] }

// joins tells whether a link is in the joining.
func (b *board) joins(name int) bool { return b.partner(b.ends(name)[leftList]) == name }

// joining returns the names of the links in the joining.
func (b *board) joining() []int {
	var room [api.MaxListItems]int
	grown := room[:0:min(b.Left, b.Right)]
	for name := range b.Links {
		if b.joins(name) {
			grown = append(grown, name)
		}
	}
	joining := make([]int, len(grown))
	copy(joining, grown)
	return joining
}

// size returns how many links the joining has.
func (b *board) size() int {
	size := 0
	for _, s := range b.items(leftList) {
		if b.partner(s) != none {
			size++
		}
	}
	return size
}

// pair makes the items of a link partners.
func (b *board) pair(name int) {
	for _, s := range b.ends(name) {
		b.by[s.list][s.item] = name
	}
}

// part takes its partner from an item, and returns both of them; nothing if it has none.
func (b *board) part(s side) []side {
	name := b.partner(s)
	if name == none {
		return nil
	}
	ends := b.ends(name)
	for _, end := range ends {
		b.by[end.list][end.item] = none
	}
	return ends[:]
}

// know makes the items of a link partners for good, and returns the items that had other partners, and these.
func (b *board) know(name int) []side {
	var parted []side
	for _, end := range b.ends(name) {
		parted = append(parted, b.part(end)...)
		for beside := range b.links(end, b.isOpen) {
			b.open[beside] = false
		}
	}
	b.pair(name)
	return parted
}

// refuse takes links from the sheet, and returns the items that were partners by them.
func (b *board) refuse(names ...int) []side {
	var parted []side
	for _, name := range names {
		b.open[name] = false
		if b.joins(name) {
			parted = append(parted, b.part(b.ends(name)[leftList])...)
		}
	}
	return parted
}

// with returns a board on which an open link is known; its joining is greatest if that of b is.
// A greater one would be found from an item that has lost its partner: from all others it would have been found on b, too.
func (b *board) with(name int) *board {
	c := *b
	c.grow(c.know(name)...)
	return &c
}

// without returns a board without links; its joining is greatest if that of b is, as it is of with.
func (b *board) without(names ...int) *board {
	c := *b
	c.grow(c.refuse(names...)...)
	return &c
}

// grow looks for partners of items that have none until all partners are as before.
func (b *board) grow(items ...side) {
	for {
		before := b.by
		for _, s := range items {
			if b.partner(s) == none {
				b.forget()
				b.find(s)
			}
		}
		if b.by == before {
			return
		}
	}
}

// forget makes all items such that no search has looked at them.
func (b *board) forget() {
	for s := range b.looked {
		delete(b.looked, s)
	}
}

// find looks for a partner of an item at which no search has looked: one that has none, or whose partner finds another one.
// If it finds none, no partners have changed.
func (b *board) find(s side) bool {
	b.looked[s] = true
	found := false
search:
	for name := range b.links(s, b.isOpen) {
		to := b.ends(name)[1-s.list]
		if b.looked[to] {
			continue search
		}
		b.looked[to] = true
		by := b.partner(to)
		if by == none || b.find(b.ends(by)[s.list]) {
			b.pair(name)
			found = true
			break search
		}
	}
	return found
}

// covered tells whether each open link has an item in a cover.
func (b *board) covered(c api.ListCover) bool {
	for name, link := range b.Links {
		if b.open[name] && !slices.Contains(c.Left, link.Left) && !slices.Contains(c.Right, link.Right) {
			return false
		}
	}
	return true
}

// cover returns a cover with just one item of each open link in the joining, which is greatest.
// A search from a left item without a partner finds none, and so looks at all items that can be reached from there.
// So an open link at whose Left it looks has a Right at which it looks, too, and which has a partner; all other left items have partners.
func (b *board) cover() api.ListCover {
	b.forget()
	for _, s := range b.items(leftList) {
		if b.partner(s) == none {
			b.find(s)
		}
	}
	var c api.ListCover
	for _, name := range b.joining() {
		ends := b.ends(name)
		switch {
		case !b.open[name]:
		case b.looked[ends[leftList]]:
			c.Right = append(c.Right, ends[rightList].item)
		default:
			c.Left = append(c.Left, ends[leftList].item)
		}
	}
	slices.Sort(c.Left)
	slices.Sort(c.Right)
	return c
}
