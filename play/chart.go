package play

import (
	"iter"
	"slices"

	"mandrel/api"
)

// state is how many turns lie behind, and how many playings they may have taken.
type state struct {
	turns, plays int
}

// way is a way from one state to another one, and what it is worth. It plays the turns in between, or it leaves out a turn, or a playing.
type way struct {
	from, to state
	worth    int64
}

// isPlayed tells whether a stretch is played along a way.
func (w way) isPlayed() bool { return w.from.turns < w.to.turns && w.from.plays < w.to.plays }

// stretch returns the stretch that is played along a way.
func (w way) stretch() api.PlayStretch {
	return api.PlayStretch{From: w.from.turns, To: w.to.turns - 1}
}

// chart is a board with a label for each state, and the way by which one came there.
type chart struct {
	*board
	labels []int64
	came   map[state]way
}

// blank returns a chart of the board on which all labels are 0.
func (b *board) blank() *chart {
	return &chart{b, make([]int64, (b.Turns+1)*(b.Plays+1)), map[state]way{}}
}

// draw returns the chart of the board with the least labels that are right: each one is what can be saved up to its state.
func (b *board) draw() *chart {
	c := b.blank()
	for to := range c.states {
		if w, ok := c.needs(to); ok {
			c.labels[c.place(to)] = c.along(w)
			c.came[to] = w
		}
	}
	return c
}

// states yields all states, each one behind those from which ways lead to it.
func (c *chart) states(yield func(state) bool) {
	for turns := range c.Turns + 1 {
		for plays := range c.Plays + 1 {
			if !yield(state{turns, plays}) {
				return
			}
		}
	}
}

// ways yields the ways to a state.
// Stretches that are worth nothing are passed over if no other one has the same last turn: leaving out their turns and a playing saves as much.
func (c *chart) ways(to state) iter.Seq[way] {
	return func(yield func(way) bool) {
		last, before := to.turns-1, to.plays-1
		if last >= 0 && !yield(way{state{last, to.plays}, to, 0}) {
			return
		}
		if before >= 0 && !yield(way{state{to.turns, before}, to, 0}) {
			return
		}
		if last < 0 || before < 0 || c.worths[last] == (row{}) {
			return
		}
		for s := range c.stretches(last) {
			if !yield(way{state{s.From, before}, to, c.worths[last][s.From]}) {
				return
			}
		}
	}
}

// needs returns the way to a state that asks most of its label; not ok at the first state, to which none leads.
func (c *chart) needs(to state) (way, bool) { return greatest(c.ways(to), c.along) }

// along returns what the label at the end of a way has to be at least.
func (c *chart) along(w way) int64 { return c.labels[c.place(w.from)] + w.worth }

// place returns the index of the label of a state.
func (c *chart) place(s state) int { return s.turns*(c.Plays+1) + s.plays }

// isRight tells whether the labels are right.
func (c *chart) isRight() bool {
	for to := range c.states {
		label := c.labels[c.place(to)]
		w, ok := c.needs(to)
		if ok && label < c.along(w) || !ok && label != 0 {
			return false
		}
	}
	return true
}

// last returns the labels for all turns.
func (c *chart) last() []int64 {
	return slices.Clone(c.labels[c.place(state{c.Turns, 0}):])
}

// bound returns the bound of the labels.
func (c *chart) bound() int64 { return c.labels[len(c.labels)-1] }

// plan returns a best plan, and takes the ways of its states out of the chart.
func (c *chart) plan() []api.PlayStretch {
	var room [api.MaxPlays]api.PlayStretch
	grown := room[:0:c.Plays]
	for at := (state{c.Turns, c.Plays}); at != (state{}); {
		w := c.came[at]
		delete(c.came, at)
		if w.isPlayed() {
			grown = append(grown, w.stretch())
		}
		at = w.from
	}
	slices.Reverse(grown)
	plan := make([]api.PlayStretch, len(grown))
	copy(plan, grown)
	return plan
}
