package word

import "mandrel/api"

// known is what is known of some matches: the greatest level of them, and how many passages of as many matches end with one of them.
// It is nothing if there are no such matches.
type known struct {
	level int
	count int64
}

// or returns what is known of the matches of two kinds together, if none of them is of both.
func (k known) or(other known) known {
	switch {
	case k.level > other.level:
		return k
	case k.level < other.level:
		return other
	}
	return known{k.level, k.count + other.count}
}

// longer returns what is known of a match alone, if k is known of those that come before it.
func (k known) longer() known {
	if k == (known{}) {
		return known{level: 1, count: 1}
	}
	return known{k.level + 1, k.count}
}

// chart is what is known of the matches of a board.
type chart struct {
	*board
	ends   map[place]known                     // of each match alone
	fronts [api.MaxWordHearers]map[place]known // of those in front of a place, as front returns it
	all    known                               // of all of them
}

// blank returns a chart on which nothing is known.
func (b *board) blank() *chart {
	c := &chart{board: b, ends: map[place]known{}}
	for hearers := range c.fronts {
		c.fronts[hearers] = map[place]known{}
	}
	return c
}

// front returns what is known of the matches all whose indexes are less than those of a place, and just by one for the first hearers, so many of them.
// For the next hearer some of these are less just by one, too; the others are in front of the place with one less there.
// So no match is counted twice. What is known of each one alone has to be on the chart already.
func (c *chart) front(p place, hearers int) known {
	if hearers == len(c.lines) {
		for hearer := range c.lines {
			p[hearer]--
		}
		return c.ends[p]
	}
	if p[hearers] == 0 {
		return known{}
	}
	if k, ok := c.fronts[hearers][p]; ok {
		return k
	}
	below := p
	below[hearers]--
	last := c.front(p, hearers+1)
	k := last.or(c.front(below, hearers))
	c.fronts[hearers][p] = k
	return k
}

// passages returns the chart with the least levels: that of a match is how many matches the longest passages have that end with it.
func (b *board) passages() *chart {
	c := b.blank()
	for m := range c.matches() {
		// Matches that come before this one are also before it in order.
		c.ends[m] = c.front(m, 0).longer()
	}
	c.all = c.front(c.whole(), 0)
	return c
}

// right tells whether levels, one for each of the matches in order, are right.
// No passages are counted on its chart.
func (b *board) right(matches []place, levels []int) bool {
	c := b.blank()
	for i, m := range matches {
		if levels[i] <= c.front(m, 0).level {
			return false
		}
		c.ends[m] = known{level: levels[i]}
	}
	return true
}

// view is the chart of lines and that of the same lines turned: so the longest passages are known that end with a match, and those that begin with it.
type view struct {
	*chart
	back *chart
}

// both returns the view of a board.
func (b *board) both() *view { return &view{b.passages(), b.turned().passages()} }

// begins returns what is known of a match if passages are read from their ends.
func (v *view) begins(m place) known { return v.back.ends[v.turn(m)] }

// shares returns how many longest passages have a match.
func (v *view) shares(m place) int64 {
	end, begin := v.ends[m], v.begins(m)
	if end.level+begin.level-1 < v.all.level {
		return 0
	}
	return end.count * begin.count
}

// first returns the longest passage that is the first one in lexicographic order.
// The first match that can be the next one of a longest passage is taken; those that come behind it are still to be looked at.
func (v *view) first() []place {
	var room [api.MaxWordText]place
	grown := room[:0:v.all.level]
	for m := range v.matches() {
		n := len(grown)
		if v.begins(m).level != v.all.level-n {
			continue
		}
		if n == 0 || rising(grown[n-1][:len(v.lines)], m[:len(v.lines)]) {
			grown = append(grown, m)
		}
	}
	return grown
}

// certain returns the matches that all longest passages have, in order.
func (v *view) certain() []place {
	var found []place
	for m := range v.matches() {
		if v.shares(m) == v.all.count {
			found = append(found, m)
		}
	}
	return found
}

// grades returns the grades of the words of a hearer.
// No passage has two matches with the same index for a hearer, so that those of different matches can be added up.
func (v *view) grades(hearer int) []int {
	sums := make([]int64, len(v.lines[hearer]))
	for m := range v.matches() {
		sums[m[hearer]] += v.shares(m)
	}
	var grades []int
	for _, sum := range sums {
		switch sum {
		case 0:
			grades = append(grades, 0)
		case v.all.count:
			grades = append(grades, 2)
		default:
			grades = append(grades, 1)
		}
	}
	return grades
}
