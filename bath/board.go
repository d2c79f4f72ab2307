package bath

import (
	"iter"
	"slices"

	"mandrel/api"
)

// stock is how many things of each kind there are; behind the last kind it has zeros.
type stock [api.MaxBathKinds]int64

// of returns a list of numbers, one for each kind, as a stock.
func of(numbers []int64) stock {
	var s stock
	copy(s[:], numbers)
	return s
}

// step is the move by which a search came to a stock, and the stock at which it was made.
type step struct {
	from stock
	move int
}

// board is a valid workshop with the steps to all stocks that were reached, and with those that are still to be looked at, each by how many were reached before it.
type board struct {
	api.BathSpec
	came  map[stock]step
	ahead map[int]stock
}

// lay returns the board of a workshop with some stocks, on which nothing was reached yet.
func lay(w api.BathSpec, stocks ...[]int64) (*board, api.Errno) {
	if e := CheckBath(w); e != api.OK {
		return nil, e
	}
	b := &board{w, map[stock]step{}, map[int]stock{}}
	for _, s := range stocks {
		if e := b.check(s); e != api.OK {
			return nil, e
		}
	}
	return b, api.OK
}

// check reports whether numbers are a stock.
func (b *board) check(numbers []int64) api.Errno {
	if len(numbers) != len(b.Caps) {
		return api.ErrEqual
	}
	for kind, n := range numbers {
		if !within(0, b.Caps[kind], n) {
			return api.ErrRange
		}
	}
	return api.OK
}

// gain returns how many more things of a kind a move gives than it takes.
func (b *board) gain(move, kind int) int64 {
	m := b.Moves[move]
	return m.Give[kind] - m.Take[kind]
}

// after returns the stock after a move; not ok if it cannot be made.
func (b *board) after(s stock, move int) (stock, bool) {
	for kind, most := range b.Caps {
		if s[kind] < b.Moves[move].Take[kind] {
			return stock{}, false
		}
		s[kind] += b.gain(move, kind)
		if s[kind] > most {
			return stock{}, false
		}
	}
	return s, true
}

// follow returns the stock after a way; not ok if one of its moves cannot be made.
func (b *board) follow(s stock, way []int) (stock, bool) {
	for _, move := range way {
		next, ok := b.after(s, move)
		if !ok {
			return stock{}, false
		}
		s = next
	}
	return s, true
}

// reach notes the step to a stock, if it was not reached before.
func (b *board) reach(s stock, by step) {
	if _, ok := b.came[s]; ok {
		return
	}
	b.ahead[len(b.came)] = s
	b.came[s] = by
}

// reached yields the stocks that can be reached from one, in the order in which they are reached: none before one to which fewer moves lead.
func (b *board) reached(from stock) iter.Seq[stock] {
	return func(yield func(stock) bool) {
		clear(b.came)
		clear(b.ahead)
		b.reach(from, step{})
		for n := 0; len(b.ahead) > 0; n++ {
			s := b.ahead[n]
			delete(b.ahead, n)
			if !yield(s) {
				return
			}
			for move := range b.Moves {
				if next, ok := b.after(s, move); ok {
					b.reach(next, step{s, move})
				}
			}
		}
	}
}

// search returns a way with as few moves as any to a stock that is wanted; not ok if none can be reached.
func (b *board) search(from stock, isWanted func(stock) bool) ([]int, bool) {
	for s := range b.reached(from) {
		if isWanted(s) {
			return b.way(from, s), true
		}
	}
	return nil, false
}

// way returns the way by which the search from a stock came to another one. No stock is twice on it, so it has fewer moves than stocks were reached.
func (b *board) way(from, to stock) []int {
	var space [api.MaxBathStocks]int
	grown := space[:0:len(b.came)]
	for s := to; s != from; s = b.came[s].from {
		grown = append(grown, b.came[s].move)
	}
	slices.Reverse(grown)
	way := make([]int, len(grown))
	copy(way, grown)
	return way
}

// count returns how many stocks can be reached.
func (b *board) count(from stock) int {
	count := 0
	for range b.reached(from) {
		count++
	}
	return count
}

// most returns the greatest number of things of a kind, of all stocks that can be reached.
func (b *board) most(from stock, kind int) int64 {
	most := from[kind]
	for s := range b.reached(from) {
		most = max(most, s[kind])
	}
	return most
}

// isStuck tells whether no move can be made at a stock.
func (b *board) isStuck(s stock) bool {
	for move := range b.Moves {
		if _, ok := b.after(s, move); ok {
			return false
		}
	}
	return true
}

// isKept tells whether no move changes weights.
func (b *board) isKept(weights []int64) bool {
	for move := range b.Moves {
		var sum int64
		for kind, weight := range weights {
			sum += weight * b.gain(move, kind)
		}
		if sum != 0 {
			return false
		}
	}
	return true
}

// isGiven tells whether a mixture gives the way from a stock to another one.
func (b *board) isGiven(from, to stock, x api.BathMix) bool {
	for kind := range b.Caps {
		sum := x.Den * (from[kind] - to[kind])
		for move, times := range x.Times {
			sum += times * b.gain(move, kind)
		}
		if sum != 0 {
			return false
		}
	}
	return true
}
