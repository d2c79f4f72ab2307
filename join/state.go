package join

import (
	"iter"

	"mandrel/api"
)

// state is what steps leave to those that follow them: the last one of them, and the set of their pieces.
// No piece is in the set before the first step; the last step says nothing then.
type state struct {
	last   api.JoinStep
	pieces uint
}

// members returns what tells whether a piece is in a set.
func members(pieces uint) func(piece int) bool {
	return func(piece int) bool { return pieces>>piece&1 == 1 }
}

// behind yields the states that come from a state by one step, in the order of these steps.
func (b board) behind(at state) iter.Seq[state] {
	return func(yield func(state) bool) {
		begun := at.pieces != 0
		if begun && b.table[code(at.last)] == (row{}) {
			return
		}
		there := members(at.pieces)
		for s := range b.steps() {
			if there(s.Piece) || begun && !b.fits(at.last, s) {
				continue
			}
			if !yield(state{s, at.pieces | 1<<s.Piece}) {
				return
			}
		}
	}
}

// count returns in how many ways steps can follow a state, so that all pieces are there.
func (b board) count(at state) int64 {
	if n, ok := b.counts[at]; ok {
		return n
	}
	var n int64
	if at.pieces == 1<<len(b.Pieces)-1 {
		n = 1
	}
	for next := range b.behind(at) {
		n += b.count(next)
	}
	b.counts[at] = n
	return n
}

// leads tells whether steps can follow a state, so that all pieces are there.
func (b board) leads(at state) bool { return b.count(at) > 0 }

// nth returns the join with a number, which there is.
func (b board) nth(number int64) []api.JoinStep {
	var room [api.MaxJoinPieces]api.JoinStep
	grown := room[:0:len(b.Pieces)]
	at := state{}
search:
	for {
		for next := range b.behind(at) {
			n := b.count(next)
			if number < n {
				at = next
				grown = append(grown, at.last)
				continue search
			}
			number -= n
		}
		// Only behind a whole join nothing is found.
		break
	}
	join := make([]api.JoinStep, len(grown))
	copy(join, grown)
	return join
}

// rank returns the number of a join: how many joins have a lesser step where they first differ from it.
func (b board) rank(join []api.JoinStep) int64 {
	var before int64
	at := state{}
	for _, s := range join {
		for next := range b.behind(at) {
			if next.last == s {
				at = next
				break
			}
			before += b.count(next)
		}
	}
	return before
}

// without returns the board on which the second step of a pair does not fit behind the first one.
func (b board) without(p api.JoinPair) board {
	b.table[code(p.From)][code(p.To)] = false
	b.counts = map[state]int64{}
	return b
}

// shared returns the pairs that all joins have, if there is a join: those of the first one that no join lacks.
func (b board) shared() map[api.JoinPair]bool {
	pairs := map[api.JoinPair]bool{}
	join := b.nth(0)
	for i, to := range join[1:] {
		pairs[api.JoinPair{From: join[i], To: to}] = true
	}
	for p := range pairs {
		if b.without(p).leads(state{}) {
			delete(pairs, p)
		}
	}
	return pairs
}

// reached yields the states whose last step is s, and to which steps lead from the beginning.
func (b board) reached(s api.JoinStep) iter.Seq[state] {
	return func(yield func(state) bool) {
		seen := map[state]bool{}
		line := []state{{}}
		for len(line) > 0 {
			at := line[0]
			line = line[1:]
			if at.pieces != 0 && at.last == s && !yield(at) {
				return
			}
			for next := range b.behind(at) {
				if !seen[next] {
					seen[next] = true
					line = append(line, next)
				}
			}
		}
	}
}

// rivals tells for each step, at its code, whether it comes just behind a step in some join.
func (b board) rivals(s api.JoinStep) row {
	var found row
	for at := range b.reached(s) {
		for next := range b.behind(at) {
			if b.leads(next) {
				found[code(next.last)] = true
			}
		}
	}
	return found
}
