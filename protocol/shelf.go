package protocol

import (
	"cmp"
	"slices"
	"strings"

	"mandrel/api"
)

// rooms is how many cylinders are in each box.
type rooms [api.MaxProtocolBox + 1]int

// tally returns how many cylinders of a list are in each box.
func tally(l []api.ProtocolItem) rooms {
	var r rooms
	for _, c := range l {
		r[c.Box]++
	}
	return r
}

// shelf is cylinders by their Numbers, and how many of them are in each box.
type shelf struct {
	cylinders map[int64]api.ProtocolItem
	rooms     rooms
}

// shelve returns a shelf with the cylinders of a list, each of them only if there is room in its box.
func shelve(l []api.ProtocolItem) *shelf {
	s := &shelf{cylinders: map[int64]api.ProtocolItem{}}
	for _, c := range l {
		if !s.isFull(c.Box) {
			s.put(c)
		}
	}
	return s
}

// has tells whether there is a cylinder.
func (s *shelf) has(number int64) bool {
	_, ok := s.cylinders[number]
	return ok
}

// isFull tells whether there is no room in a box.
func (s *shelf) isFull(box int64) bool { return s.rooms[box] >= api.MaxProtocolRoom }

// put puts a cylinder into its box.
func (s *shelf) put(c api.ProtocolItem) {
	s.cylinders[c.Number] = c
	s.rooms[c.Box]++
}

// take takes a cylinder out of its box.
func (s *shelf) take(number int64) api.ProtocolItem {
	c := s.cylinders[number]
	delete(s.cylinders, number)
	s.rooms[c.Box]--
	return c
}

// list returns all cylinders by rising Numbers. There are at most MaxProtocolLines.
func (s *shelf) list() []api.ProtocolItem {
	var space [api.MaxProtocolLines]api.ProtocolItem
	grown := space[:0:len(s.cylinders)]
	for _, c := range s.cylinders {
		grown = append(grown, c)
	}
	slices.SortFunc(grown, byNumber)
	return taken(grown)
}

// text returns the shelf list.
func (s *shelf) text() string {
	var text strings.Builder
	cylinders := s.list()
	for box, count := range s.rooms {
		if count == 0 {
			continue
		}
		text.WriteString(line("box", int64(box)) + "\n")
		for _, c := range cylinders {
			if c.Box == int64(box) {
				text.WriteString(entry(c) + "\n")
			}
		}
	}
	return text.String()
}

// byNumber compares cylinders by their Numbers.
func byNumber(a, b api.ProtocolItem) int { return cmp.Compare(a.Number, b.Number) }

// isCylinder tells whether all numbers of a cylinder are as described.
func isCylinder(c api.ProtocolItem) bool {
	return within(1, api.MaxNumber, c.Number) && within(1, api.MaxProtocolBox, c.Box) &&
		within(1, api.MaxProtocolDay, c.Day) && within(1, api.MaxProtocolVoice, c.Voice) &&
		within(1, api.MaxProtocolTurns, c.Turns) && within(0, api.MaxNumber, c.From)
}

// entry returns the line of a cylinder in a shelf list.
func entry(c api.ProtocolItem) string {
	cracked := int64(0)
	if c.Cracked {
		cracked = 1
	}
	return line(markOf(c.Number), c.Day, c.Voice, c.Turns, c.From, cracked)
}

// cylinderOf returns the cylinder of a line in a shelf list, without its box, if it is one's: any other one, or none, if not.
func cylinderOf(line string) api.ProtocolItem {
	words := strings.Split(line, " ")
	if len(words) != 6 {
		return api.ProtocolItem{}
	}
	n, _ := marked(words[0])
	return api.ProtocolItem{
		Number: n, Day: number(words[1]), Voice: number(words[2]), Turns: number(words[3]),
		From: number(words[4]), Cracked: words[5] == "1",
	}
}

// cylindersOf returns the cylinders whose shelf list a text is, if it is one, by rising Numbers.
func cylindersOf(text string) []api.ProtocolItem {
	var space [api.MaxProtocolLines]api.ProtocolItem
	grown := space[:0:len(space)]
	var box int64
	for line := range lines(text) {
		if card := cardOf(line); card.Kind == api.ProtocolBox {
			box = card.A
			continue
		}
		c := cylinderOf(line)
		c.Box = box
		grown = append(grown, c)
	}
	slices.SortFunc(grown, byNumber)
	return taken(grown)
}
