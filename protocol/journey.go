package protocol

import (
	"strings"

	"mandrel/api"
)

// journey is what lines have come to: the cylinders on a shelf, the day and the box that is open, which are 0 if there are none,
// and the cards of the lines that count, by the numbers of these; all other lines have none.
type journey struct {
	*shelf
	today, open int64
	cards       [api.MaxProtocolLines + 1]api.ProtocolCard
}

// depart returns a journey of which no line was written yet.
func depart() *journey { return &journey{shelf: shelve(nil)} }

// checkText reports whether a text is lines of a protocol.
func checkText(text string) api.Errno {
	switch {
	case len(text) > api.MaxText:
		return api.ErrLong
	case text != "" && !strings.HasSuffix(text, "\n"):
		return api.ErrForm
	case strings.Count(text, "\n") > api.MaxProtocolLines:
		return api.ErrMany
	}
	return api.OK
}

// travel returns the journey of a protocol, and the errors of its lines.
func travel(text string) (*journey, []api.Errno, api.Errno) {
	if e := checkText(text); e != api.OK {
		return nil, nil, e
	}
	j := depart()
	var space [api.MaxProtocolLines]api.Errno
	grown := space[:0:strings.Count(text, "\n")]
	for line := range lines(text) {
		e := j.read(len(grown)+1, line)
		grown = append(grown, e)
	}
	return j, taken(grown), api.OK
}

// read does what the line with this number says.
func (j *journey) read(at int, line string) api.Errno {
	c, e := Parse(line)
	if e != api.OK {
		return e
	}
	return j.do(at, c)
}

// do does what a card says in the line with this number.
func (j *journey) do(at int, c api.ProtocolCard) api.Errno {
	deed := j.deed(c.Kind)
	e := deed(c)
	if e == api.OK && c.Kind != api.ProtocolStrike {
		j.cards[at] = c
	}
	return e
}

// deed returns what is done by a card of a kind.
func (j *journey) deed(kind int) func(api.ProtocolCard) api.Errno {
	switch kind {
	case api.ProtocolDay:
		return j.begin
	case api.ProtocolBox:
		return j.unlock
	case api.ProtocolSing:
		return j.sing
	case api.ProtocolCopy:
		return j.duplicate
	case api.ProtocolCrack:
		return j.crack
	case api.ProtocolMove:
		return j.move
	}
	return j.strike
}

// begin begins a day.
func (j *journey) begin(c api.ProtocolCard) api.Errno {
	if j.today >= c.A {
		return api.ErrLate
	}
	j.today = c.A
	return api.OK
}

// unlock opens a box.
func (j *journey) unlock(c api.ProtocolCard) api.Errno {
	if j.today == 0 {
		return api.ErrState
	}
	j.open = c.A
	return api.OK
}

// checkNew reports whether a new cylinder can be put into the box that is open.
func (j *journey) checkNew(number int64) api.Errno {
	switch {
	case j.open == 0:
		return api.ErrState
	case j.has(number):
		return api.ErrHave
	case j.isFull(j.open):
		return api.ErrFull
	}
	return api.OK
}

// sing puts a new cylinder into the box that is open.
func (j *journey) sing(c api.ProtocolCard) api.Errno {
	if e := j.checkNew(c.A); e != api.OK {
		return e
	}
	j.put(api.ProtocolItem{Number: c.A, Box: j.open, Day: j.today, Voice: c.B, Turns: c.C})
	return api.OK
}

// duplicate puts a copy of a cylinder into the box that is open.
func (j *journey) duplicate(c api.ProtocolCard) api.Errno {
	if e := j.checkNew(c.A); e != api.OK {
		return e
	}
	if e := j.checkSound(c.B); e != api.OK {
		return e
	}
	from := j.cylinders[c.B]
	j.put(api.ProtocolItem{Number: c.A, Box: j.open, Day: j.today, Voice: from.Voice, Turns: from.Turns, From: c.B})
	return api.OK
}

// checkSound reports whether there is a cylinder that is not cracked.
func (j *journey) checkSound(number int64) api.Errno {
	switch {
	case !j.has(number):
		return api.ErrNone
	case j.cylinders[number].Cracked:
		return api.ErrWorn
	}
	return api.OK
}

// crack cracks a cylinder.
func (j *journey) crack(c api.ProtocolCard) api.Errno {
	if e := j.checkSound(c.A); e != api.OK {
		return e
	}
	cracked := j.take(c.A)
	cracked.Cracked = true
	j.put(cracked)
	return api.OK
}

// move moves a cylinder into the box that is open.
func (j *journey) move(c api.ProtocolCard) api.Errno {
	switch {
	case j.open == 0:
		return api.ErrState
	case !j.has(c.A):
		return api.ErrNone
	case j.cylinders[c.A].Box == j.open:
		return api.ErrEqual
	case j.isFull(j.open):
		return api.ErrFull
	}
	moved := j.take(c.A)
	moved.Box = j.open
	j.put(moved)
	return api.OK
}

// strike strikes a line. Lines that do not come before this one have no card yet, as those have none that do not count.
func (j *journey) strike(c api.ProtocolCard) api.Errno {
	if j.cards[c.A] == (api.ProtocolCard{}) {
		return api.ErrRange
	}
	again, ok := j.without(func(at int) bool { return at == int(c.A) })
	if !ok {
		return api.ErrOrder
	}
	*j = *again
	return api.OK
}

// counting yields the cards of the lines that count, by the numbers of these.
func (j *journey) counting(yield func(int, api.ProtocolCard) bool) {
	for at, c := range j.cards {
		if c != (api.ProtocolCard{}) && !yield(at, c) {
			return
		}
	}
}

// without returns the journey of the lines that count and are not struck; not ok if one of them would be refused.
func (j *journey) without(isStruck func(at int) bool) (*journey, bool) {
	again, ok := depart(), true
search:
	for at, c := range j.counting {
		switch {
		case isStruck(at):
		case again.do(at, c) != api.OK:
			ok = false
			break search
		}
	}
	return again, ok
}
