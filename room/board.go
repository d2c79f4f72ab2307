package room

import (
	"iter"

	"mandrel/api"
)

// ranking tells of each degree of a room, Lo first, for how many days it is kept; behind Hi it has zeros.
type ranking [api.MaxRoomDegree + 1]int

// board is a valid room with ranks of its degrees, and with the deed that is done at each of them.
type board struct {
	api.RoomSpec
	ranks ranking
	done  func(degree int64) int
}

// lay returns the board of a room in which the best deeds are done, without ranks.
func lay(r api.RoomSpec) (*board, api.Errno) {
	if e := CheckRoom(r); e != api.OK {
		return nil, e
	}
	b := &board{RoomSpec: r}
	b.done = b.best
	return b, api.OK
}

// ranked returns the board of a room in which the best deeds are done, with its ranks.
func ranked(r api.RoomSpec) (*board, api.Errno) {
	b, e := lay(r)
	if e != api.OK {
		return nil, e
	}
	b.settle()
	return b, api.OK
}

// follow returns the board of a room in which the deeds of a rule are done, without ranks.
func follow(r api.RoomSpec, rule []int) (*board, api.Errno) {
	b, e := lay(r)
	if e != api.OK {
		return nil, e
	}
	if len(rule) != b.size() {
		return nil, api.ErrEqual
	}
	if !within(0, len(b.Deeds)-1, rule...) {
		return nil, api.ErrArg
	}
	b.done = func(degree int64) int { return rule[b.place(degree)] }
	return b, api.OK
}

// size returns how many degrees the room has.
func (b *board) size() int { return b.place(b.Hi) + 1 }

// place returns the index of a degree in lists that have an element for each one.
func (b *board) place(degree int64) int { return int(degree - b.Lo) }

// has tells whether a degree is one of the room.
func (b *board) has(degree int64) bool { return within(b.Lo, b.Hi, degree) }

// degrees yields the degrees of the room, Lo first.
func (b *board) degrees(yield func(degree int64) bool) {
	for degree := b.Lo; degree <= b.Hi; degree++ {
		if !yield(degree) {
			return
		}
	}
}

// deeds yields the names of all deeds, increasing.
func (b *board) deeds(yield func(deed int) bool) {
	for deed := range b.Deeds {
		if !yield(deed) {
			return
		}
	}
}

// leads yields each weather that a day can have, the least one first, with the degree to which the day leads then, if a deed is done at a degree.
func (b *board) leads(degree int64, deed int) iter.Seq2[int64, int64] {
	return func(yield func(weather, next int64) bool) {
		at := degree + b.Deeds[deed].Add
		for weather := b.Weather.Lo; weather <= b.Weather.Hi; weather++ {
			if !yield(weather, at+weather) {
				return
			}
		}
	}
}

// rank returns the rank of a degree. One that is not of the room has -1, so that a day that may lead there keeps for 0 days.
func (b *board) rank(degree int64) int {
	if !b.has(degree) {
		return -1
	}
	return b.ranks[b.place(degree)]
}

// days returns for how many days a degree is kept if a deed is done there, by the ranks of the degrees to which the day leads.
func (b *board) days(degree int64, deed int) int {
	least := api.RoomEver - 1
	for _, next := range b.leads(degree, deed) {
		least = min(least, b.rank(next))
	}
	return least + 1
}

// best returns the first deed that keeps a degree for the most days, by the ranks.
func (b *board) best(degree int64) int {
	deed, _ := greatest(b.deeds, func(deed int) int { return b.days(degree, deed) })
	return deed
}

// again returns the ranks that follow from the ranks of the board by the deeds that are done.
func (b *board) again() ranking {
	var next ranking
	for degree := range b.degrees {
		next[b.place(degree)] = b.days(degree, b.done(degree))
	}
	return next
}

// settle finds the ranks of the room, by the deeds that are done.
// Each degree is kept for 0 days, and each round finds those that are kept a day more. Once a round loses none of them, no later one does: ranks that are not for ever are less than the number of degrees.
func (b *board) settle() {
	clear(b.ranks[:])
	for {
		next := b.again()
		for i, days := range next {
			if days > api.MaxRoomDegree {
				next[i] = api.RoomEver
			}
		}
		if next == b.ranks {
			return
		}
		b.ranks = next
	}
}
