package join

import (
	"iter"
	"slices"

	"mandrel/api"
)

// row tells for each step, at its code, whether it fits behind the one whose row it is.
type row [2 * api.MaxJoinPieces]bool

// table is the rows of all steps, each at the code of its step.
type table [2 * api.MaxJoinPieces]row

// board is a valid cylinder with the table of what fits, and the counts that are known.
type board struct {
	api.JoinCylinder
	table
	counts map[state]int64
}

// code returns the number of a step, at which it is in a table.
func code(s api.JoinStep) int {
	if s.Turned {
		return 2*s.Piece + 1
	}
	return 2 * s.Piece
}

// fits tells whether a step fits behind another one.
func (t *table) fits(from, to api.JoinStep) bool { return t[code(from)][code(to)] }

// lay returns a cylinder with its table.
func lay(c api.JoinCylinder) (board, api.Errno) {
	if e := CheckCylinder(c); e != api.OK {
		return board{}, e
	}
	b := board{JoinCylinder: c, counts: map[state]int64{}}
	for from := range b.steps() {
		for to := range b.steps() {
			b.table[code(from)][code(to)] = b.meet(from, to)
		}
	}
	return b, api.OK
}

// steps yields all steps in order.
func (b board) steps() iter.Seq[api.JoinStep] {
	return func(yield func(api.JoinStep) bool) {
		for i, p := range b.Pieces {
			if !yield(api.JoinStep{Piece: i}) {
				return
			}
			if p.Loose && !yield(api.JoinStep{Piece: i, Turned: true}) {
				return
			}
		}
	}
}

// strange tells whether the cylinder does not have a step.
func (b board) strange(s api.JoinStep) bool {
	return s.Piece < 0 || s.Piece >= len(b.Pieces) || s.Turned && !b.Pieces[s.Piece].Loose
}

// ends returns where a step begins, and where it ends.
func (b board) ends(s api.JoinStep) (begin, end api.JoinEnd) {
	l := b.Pieces[s.Piece].Ends
	if s.Turned {
		return l[1], l[0]
	}
	return l[0], l[1]
}

// meet finds out whether a step fits behind another one.
func (b board) meet(from, to api.JoinStep) bool {
	_, end := b.ends(from)
	begin, _ := b.ends(to)
	gap := max(begin.Depth.Lo-end.Depth.Hi, end.Depth.Lo-begin.Depth.Hi)
	return from.Piece != to.Piece && gap <= b.Off && within(b.Step.Lo, b.Step.Hi, just(begin.Place-end.Place))
}

// check returns the error of CheckJoin.
func (b board) check(l []api.JoinStep) api.Errno {
	if len(l) != len(b.Pieces) {
		return api.ErrEqual
	}
	if _, ok := first(slices.Values(l), b.strange); ok {
		return api.ErrArg
	}
	var pieces uint
	for _, s := range l {
		if members(pieces)(s.Piece) {
			return api.ErrHave
		}
		pieces |= 1 << s.Piece
	}
	for i, s := range l[1:] {
		if !b.fits(l[i], s) {
			return api.ErrCrack
		}
	}
	return api.OK
}
