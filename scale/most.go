package scale

import (
	"iter"
	"slices"
)

// below is a place below all steps: where a scale without steps ends.
const below = -1

// state is how many steps a scale has, and where the last one of them is.
type state struct {
	steps int
	last  int64
}

// choice is a scale, and how many tones it meets.
type choice struct {
	scale []int64
	meets int
}

// count returns how many tones the scale of a choice meets.
func (c choice) count() int { return c.meets }

// most returns a scale with at most so many steps that meets as many tones as any.
// For each number of steps the best scale to each last step is made from those that are one step shorter, which are then needed no more.
func (b *board) most(steps int) choice {
	places := b.places()
	best := choice{}
	known := map[state]choice{{last: below}: best}
	for n := range steps {
		for i, place := range places {
			longer, ok := greatest(b.longer(known, n, places[:i], place), choice.count)
			if !ok {
				continue
			}
			longer.scale = append(longer.scale[:n:n], place)
			known[state{n + 1, place}] = longer
			if longer.meets > best.meets {
				best = longer
			}
		}
		for _, place := range places {
			delete(known, state{n, place})
		}
	}
	return best
}

// places returns where the steps of a scale need to be looked for, increasing, with the place below all of them in front.
// A step may always be moved down to the greatest lower end that is not above it: it still meets all that it met.
func (b *board) places() []int64 {
	places := []int64{below}
	for t := range b.order(lower.of) {
		places = append(places, t.Lo)
	}
	return slices.Compact(places)
}

// longer yields the known choices with so many steps, the last one at one of the places before, with the tones counted in that one more step meets.
// Of these tones the last step has met those that do not begin behind it, and no earlier step has met any other one.
func (b *board) longer(known map[state]choice, steps int, before []int64, place int64) iter.Seq[choice] {
	return func(yield func(choice) bool) {
		for _, last := range before {
			c, ok := known[state{steps, last}]
			if !ok {
				continue
			}
			for _, t := range b.tones {
				if within(last+1, place, t.Lo) && t.Hi >= place {
					c.meets++
				}
			}
			if !yield(c) {
				return
			}
		}
	}
}
