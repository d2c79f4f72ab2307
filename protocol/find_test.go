package protocol_test

import (
	"cmp"
	"regexp"
	"slices"
	"strconv"
	"strings"
	"testing"

	"mandrel/api"
	"mandrel/protocol"
)

// pattern is the lines of a kind of cards, with their numbers, and the greatest ones of these.
type pattern struct {
	kind  int
	text  *regexp.Regexp
	mosts []int64
}

// patterns returns those of all kinds.
func patterns() []pattern {
	const n = " ([1-9][0-9]*)"
	return []pattern{
		{1, regexp.MustCompile("^day" + n + "$"), []int64{100000}},
		{2, regexp.MustCompile("^box" + n + "$"), []int64{999}},
		{3, regexp.MustCompile("^sing" + n + n + n + "$"), []int64{1 << 40, 99, 400}},
		{4, regexp.MustCompile("^copy" + n + n + "$"), []int64{1 << 40, 1 << 40}},
		{5, regexp.MustCompile("^crack" + n + "$"), []int64{1 << 40}},
		{6, regexp.MustCompile("^move" + n + "$"), []int64{1 << 40}},
		{7, regexp.MustCompile("^strike" + n + "$"), []int64{60}},
	}
}

// known is the patterns of all kinds.
var known = patterns()

// cardOf returns the card of a line, as the chapter defines it; not ok if there is none.
func cardOf(line string) (api.ProtocolCard, bool) {
	for _, p := range known {
		found := p.text.FindStringSubmatch(line)
		if found == nil {
			continue
		}
		var n [3]int64
		for i, most := range p.mosts {
			m, err := strconv.ParseInt(found[1+i], 10, 64)
			if err != nil || m > most {
				return api.ProtocolCard{}, false
			}
			n[i] = m
		}
		return api.ProtocolCard{Kind: p.kind, A: n[0], B: n[1], C: n[2]}, true
	}
	return api.ProtocolCard{}, false
}

// world is what lines have come to.
type world struct {
	day, box int64
	items    []api.ProtocolItem
}

// at returns the index of a cylinder, -1 if there is none.
func (w world) at(number int64) int {
	return slices.IndexFunc(w.items, func(c api.ProtocolItem) bool { return c.Number == number })
}

// isFull tells whether there is no room in the box that is open.
func (w world) isFull() bool {
	count := 0
	for _, c := range w.items {
		if c.Box == w.box {
			count++
		}
	}
	return count >= 12
}

// after returns what a card that strikes nothing makes of a world, and the error by which it is refused.
func (w world) after(c api.ProtocolCard) (world, api.Errno) {
	one, two := w.at(c.A), w.at(c.B)
	w.items = slices.Clone(w.items)
	switch {
	case c.Kind == api.ProtocolDay && w.day != 0 && w.day >= c.A:
		return w, api.ErrLate
	case c.Kind == api.ProtocolDay:
		w.day = c.A
	case c.Kind == api.ProtocolBox && w.day == 0:
		return w, api.ErrState
	case c.Kind == api.ProtocolBox:
		w.box = c.A
	case c.Kind == api.ProtocolCrack && one < 0:
		return w, api.ErrNone
	case c.Kind == api.ProtocolCrack && w.items[one].Cracked:
		return w, api.ErrWorn
	case c.Kind == api.ProtocolCrack:
		w.items[one].Cracked = true
	case w.box == 0:
		return w, api.ErrState
	case c.Kind == api.ProtocolMove && one < 0:
		return w, api.ErrNone
	case c.Kind == api.ProtocolMove && w.items[one].Box == w.box:
		return w, api.ErrEqual
	case c.Kind != api.ProtocolMove && one >= 0:
		return w, api.ErrHave
	case w.isFull():
		return w, api.ErrFull
	case c.Kind == api.ProtocolMove:
		w.items[one].Box = w.box
	case c.Kind == api.ProtocolSing:
		w.items = append(w.items, api.ProtocolItem{Number: c.A, Box: w.box, Day: w.day, Voice: c.B, Turns: c.C})
	case two < 0:
		return w, api.ErrNone
	case w.items[two].Cracked:
		return w, api.ErrWorn
	default:
		w.items = append(w.items, api.ProtocolItem{Number: c.A, Box: w.box, Day: w.day, Voice: w.items[two].Voice, Turns: w.items[two].Turns, From: c.B})
	}
	return w, api.OK
}

// written is a line that was looked at, and what became of it.
type written struct {
	line   string
	card   api.ProtocolCard
	e      api.Errno
	struck bool
}

// counts tells whether a line counts.
func (w written) counts() bool {
	return w.e == api.OK && !w.struck && w.card.Kind != api.ProtocolStrike
}

// worldOf returns the world of the lines that count, but for one of them; not ok if some line would be refused.
func worldOf(l []written, without int) (world, bool) {
	var w world
	for i, x := range l {
		if i == without || !x.counts() {
			continue
		}
		next, e := w.after(x.card)
		if e != api.OK {
			return world{}, false
		}
		w = next
	}
	return w, true
}

// look returns the error of a line behind others, and strikes one of these if it does.
func look(l []written, line string) written {
	card, ok := cardOf(line)
	if !ok {
		return written{line: line, e: api.ErrForm}
	}
	x := written{line: line, card: card}
	if card.Kind != api.ProtocolStrike {
		w, _ := worldOf(l, -1)
		_, x.e = w.after(card)
		return x
	}
	at := int(card.A) - 1
	if at >= len(l) || !l[at].counts() {
		x.e = api.ErrRange
	} else if _, ok := worldOf(l, at); !ok {
		x.e = api.ErrOrder
	} else {
		l[at].struck = true
	}
	return x
}

// found is what Run, Fair and State return.
type found struct {
	errors []api.Errno
	fair   string
	items  []api.ProtocolItem
}

// defined returns what the chapter defines for lines.
func defined(lines []string) found {
	var l []written
	for _, line := range lines {
		x := look(l, line)
		l = append(l, x)
	}
	var f found
	for _, x := range l {
		f.errors = append(f.errors, x.e)
		if x.counts() {
			f.fair += x.line + "\n"
		}
	}
	w, _ := worldOf(l, -1)
	slices.SortFunc(w.items, func(a, b api.ProtocolItem) int { return cmp.Compare(a.Number, b.Number) })
	f.items = w.items
	return f
}

// returned returns what Run, Fair and State return for lines.
func returned(t *testing.T, lines []string) found {
	t.Helper()
	text := strings.Join(lines, "\n") + "\n"
	if len(lines) == 0 {
		text = ""
	}
	var f found
	var d, e, g api.Errno
	f.errors, d = protocol.Run(text)
	f.fair, e = protocol.Fair(text)
	f.items, g = protocol.State(text)
	if d != api.OK || e != api.OK || g != api.OK {
		t.Fatalf("%q %d %d %d", lines, d, e, g)
	}
	return f
}

// isEqual tells whether two findings are the same.
func (f found) isEqual(g found) bool {
	return slices.Equal(f.errors, g.errors) && f.fair == g.fair && slices.Equal(f.items, g.items)
}

// linesOf returns the lines of a text.
func linesOf(text string) []string {
	if text == "" {
		return nil
	}
	return strings.Split(strings.TrimSuffix(text, "\n"), "\n")
}

// capital has the capital letters of digits.
var capital = strings.NewReplacer("0", "A", "1", "B", "2", "C", "3", "D", "4", "E", "5", "F", "6", "G", "7", "H", "8", "I", "9", "J", "a", "K", "b", "L", "c", "M", "d", "N", "e", "O", "f", "P")

// grooveOf returns how a depth is written that differs by so much, as the chapter defines it.
func grooveOf(differ int64) string {
	z := 2 * differ
	if differ < 0 {
		z = -2*differ - 1
	}
	text := capital.Replace(strconv.FormatInt(z, 16))
	last := len(text) - 1
	return text[:last] + strings.ToLower(text[last:])
}

// fileOf returns the groove file of depths, as the chapter defines it.
func fileOf(depths []int64) string {
	text, before := "", int64(0)
	for i, depth := range depths {
		text += grooveOf(depth - before)
		if i%20 == 19 || i == len(depths)-1 {
			text += "\n"
		}
		before = depth
	}
	return text
}

// shelfOf returns the shelf list of cylinders, as the chapter defines it.
func shelfOf(t *testing.T, l []api.ProtocolItem) string {
	t.Helper()
	lines := map[int64][]string{}
	var boxes []int64
	for _, c := range l {
		mark, e := protocol.Mark(c.Number)
		if e != api.OK {
			t.Fatal(c, e)
		}
		words := []string{mark}
		for _, n := range []int64{c.Day, c.Voice, c.Turns, c.From} {
			words = append(words, strconv.FormatInt(n, 10))
		}
		words = append(words, map[bool]string{false: "0", true: "1"}[c.Cracked])
		lines[c.Box] = append(lines[c.Box], strings.Join(words, " ")+"\n")
		boxes = append(boxes, c.Box)
	}
	slices.Sort(boxes)
	text := ""
	for _, box := range slices.Compact(boxes) {
		text += "box " + strconv.FormatInt(box, 10) + "\n" + strings.Join(lines[box], "")
	}
	return text
}
