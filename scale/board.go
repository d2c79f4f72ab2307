package scale

import (
	"cmp"
	"iter"
	"slices"

	"mandrel/api"
)

// tone is the range of a tone, with its name.
type tone struct {
	api.Range
	name int
}

// marks tells for each tone, at its name, whether it is met.
type marks [api.MaxScaleTones]bool

// board is the tones of a song, those that are met, and the marks if all of them are.
type board struct {
	tones    []tone
	met, all marks
}

// end is one of the two ends of ranges.
type end bool

const (
	lower end = false
	upper end = true
)

// of returns where this end of a tone is.
func (e end) of(t tone) int64 {
	if e == upper {
		return t.Hi
	}
	return t.Lo
}

// set returns the board of ranges that are known to be a song.
func set(l []api.Range) *board {
	b := &board{}
	for name, r := range l {
		b.tones = append(b.tones, tone{r, name})
		b.all[name] = true
	}
	return b
}

// lay returns the board of a song.
func lay(l []api.Range) (*board, api.Errno) {
	if e := CheckSong(l); e != api.OK {
		return nil, e
	}
	return set(l), api.OK
}

// hear returns the board of a song with the tones marked that a scale meets.
func hear(l []api.Range, steps []int64) (*board, api.Errno) {
	b, e := lay(l)
	if e != api.OK {
		return nil, e
	}
	if len(steps) > api.MaxScaleTones {
		return nil, api.ErrMany
	}
	if !within(0, api.MaxScaleCents, steps...) {
		return nil, api.ErrRange
	}
	if !rising(steps) {
		return nil, api.ErrRule
	}
	for _, step := range steps {
		b.meet(step)
	}
	return b, api.OK
}

// meet marks the tones that a step meets.
func (b *board) meet(step int64) {
	for _, t := range b.tones {
		if within(t.Lo, t.Hi, step) {
			b.met[t.name] = true
		}
	}
}

// order yields the tones in the order of their places, the least one first.
func (b *board) order(place func(tone) int64) iter.Seq[tone] {
	return func(yield func(tone) bool) {
		sorted := slices.Clone(b.tones)
		slices.SortStableFunc(sorted, func(s, t tone) int { return cmp.Compare(place(s), place(t)) })
		for _, t := range sorted {
			if !yield(t) {
				return
			}
		}
	}
}

// apart returns tones that are apart, and whose upper ends, or lower ones, are a right scale; so no right scale has fewer steps.
// Each tone is the first one, in the order of these ends, that the ends before it do not meet: it lies behind them all, and so behind their tones.
// For lower ends the order is that from the highest one down.
func (b *board) apart(e end) []tone {
	clear(b.met[:])
	place := func(t tone) int64 {
		if e == lower {
			return -e.of(t)
		}
		return e.of(t)
	}
	var room [api.MaxScaleTones]tone
	grown := room[:0:len(b.tones)]
search:
	for t := range b.order(place) {
		switch {
		case b.met == b.all:
			break search
		case !b.met[t.name]:
			grown = append(grown, t)
			b.meet(e.of(t))
		}
	}
	tones := make([]tone, len(grown))
	copy(tones, grown)
	return tones
}

// fewest returns how many steps a short scale has.
func (b *board) fewest() int { return len(b.apart(upper)) }

// short returns the short scale at upper ends, each step of which has its greatest place of all short scales, or that at lower ends, where each one has its least.
func (b *board) short(e end) []int64 {
	var steps []int64
	for _, t := range b.apart(e) {
		steps = append(steps, e.of(t))
	}
	slices.Sort(steps)
	return steps
}
