package room

// state is a degree, and for how many days it is to be kept from now on.
type state struct {
	degree int64
	days   int
}

// ledger is a board with costs of states; one that cannot be kept has none.
type ledger struct {
	*board
	costs map[state]int64
}

// open returns a ledger of the board with the costs of no days.
func (b *board) open() ledger {
	l := ledger{b, map[state]int64{}}
	for degree := range b.degrees {
		l.costs[state{degree, 0}] = 0
	}
	return l
}

// cost returns the cost of days from a degree; not ok if it cannot be kept for so many.
func (b *board) cost(degree int64, days int) (int64, bool) {
	l := b.open()
	for before := range days {
		l.add(before + 1)
		l.drop(before)
	}
	cost, ok := l.costs[state{degree, days}]
	return cost, ok
}

// add finds the costs of so many days from those of a day less.
func (l ledger) add(days int) {
	for degree := range l.degrees {
		s := state{degree, days}
		for deed := range l.deeds {
			cost, ok := l.with(s, deed)
			if !ok {
				continue
			}
			if least, had := l.costs[s]; !had || cost < least {
				l.costs[s] = cost
			}
		}
	}
}

// drop takes out the costs of so many days.
func (l ledger) drop(days int) {
	for degree := range l.degrees {
		delete(l.costs, state{degree, days})
	}
}

// with returns the cost of a state if a deed is done first, in the worst weather; not ok if some weather leads to where the days that are left cannot be kept.
func (l ledger) with(s state, deed int) (int64, bool) {
	var worst int64
	for _, next := range l.leads(s.degree, deed) {
		cost, ok := l.costs[state{next, s.days - 1}]
		if !ok {
			return 0, false
		}
		worst = max(worst, cost)
	}
	return l.Deeds[deed].Cost + worst, true
}
