package protocol_test

import (
	"bytes"
	"math/rand/v2"
	"slices"
	"strconv"
	"strings"
	"testing"

	"mandrel/api"
	"mandrel/protocol"
)

// sizes is how great the numbers of random lines can be, and how often a line sings, of so many.
type sizes struct {
	numbers, boxes int64
	sing           int
}

var (
	few     = sizes{4, 2, 2}
	some    = sizes{9, 3, 3}
	crowded = sizes{40, 2, 30}
	wide    = sizes{40, 9, 9}
)

// words returns a line of words, or of numbers.
func words(word string, numbers ...int64) string {
	for _, n := range numbers {
		word += " " + strconv.FormatInt(n, 10)
	}
	return word
}

// someLine returns a random line, the one with this number.
func someLine(r *rand.Rand, at int, of sizes) string {
	n := 1 + r.Int64N(of.numbers)
	switch r.IntN(12 + of.sing) {
	case 0:
		return words("day", int64(1+at/2+r.IntN(3)))
	case 1, 2:
		return words("box", 1+r.Int64N(of.boxes))
	case 3, 4:
		return words("copy", n, 1+r.Int64N(of.numbers))
	case 5:
		return words("crack", n)
	case 6, 7:
		return words("move", n)
	case 8, 9, 10:
		return words("strike", int64(1+r.IntN(min(at+1, 60))))
	case 11:
		return []string{"", "x", "sing 1 2", "day 0", "box 1 ", "strike 61", "sing 1 100 1"}[r.IntN(7)]
	}
	return words("sing", n, 1+r.Int64N(3), 1+r.Int64N(3))
}

// someLines returns up to so many random lines. Most of them begin with a day and a box.
func someLines(r *rand.Rand, most int, of sizes) []string {
	var l []string
	if r.IntN(8) > 0 {
		l = append(l, "day 1", "box 1")
	}
	for count := len(l) + r.IntN(most-len(l)+1); len(l) < count; {
		line := someLine(r, len(l)+1, of)
		l = append(l, line)
	}
	return l
}

// P12.4, P12.5, P12.6, P12.8, P12.12, P12.13: random protocols against the definitions.
func TestRandomProtocols(t *testing.T) {
	r := rand.New(rand.NewPCG(12, 1))
	seen := map[api.Errno]int{}
	for range 8000 {
		l := someLines(r, []int{8, 20, 60}[r.IntN(3)], []sizes{few, some, crowded, wide}[r.IntN(4)])
		f := returned(t, l)
		if want := defined(l); !f.isEqual(want) {
			t.Fatalf("%q\n%v\n%v", l, f, want)
		}
		for _, e := range f.errors {
			seen[e]++
		}
		checkFair(t, f)
		checkKept(t, f)
		some := l[:r.IntN(len(l)+1)]
		if g := returned(t, some); !slices.Equal(g.errors, f.errors[:len(some)]) {
			t.Fatalf("%q %v %v", l, g.errors, f.errors)
		}
	}
	for _, e := range []api.Errno{api.OK, api.ErrRange, api.ErrNone, api.ErrForm, api.ErrState, api.ErrFull, api.ErrHave, api.ErrLate, api.ErrEqual, api.ErrWorn, api.ErrOrder} {
		if seen[e] < 100 {
			t.Error(e, seen[e])
		}
	}
}

// checkFair checks P12.8.
func checkFair(t *testing.T, f found) {
	t.Helper()
	g := returned(t, linesOf(f.fair))
	if slices.ContainsFunc(g.errors, func(e api.Errno) bool { return e != api.OK }) || g.fair != f.fair || !slices.Equal(g.items, f.items) {
		t.Fatalf("%q %v %v", f.fair, g, f)
	}
}

// checkKept checks P12.12, and that the cylinders have a shelf list.
func checkKept(t *testing.T, f found) {
	t.Helper()
	var day int64
	for _, line := range linesOf(f.fair) {
		if c, _ := protocol.Parse(line); c.Kind == api.ProtocolDay {
			day = c.A
		}
	}
	count, at := map[int64]int{}, map[int64]api.ProtocolItem{}
	for _, c := range f.items {
		count[c.Box]++
		at[c.Number] = c
		if c.Day > day || count[c.Box] > api.MaxProtocolRoom {
			t.Fatal(f)
		}
	}
	for _, c := range f.items {
		if from, ok := at[c.From]; c.From != 0 && (!ok || c.Voice != from.Voice || c.Turns != from.Turns) {
			t.Fatal(f)
		}
	}
	list, e := protocol.List(f.items)
	if l, g := protocol.ReadList(list); e != api.OK || g != api.OK || !slices.Equal(l, f.items) || list != shelfOf(t, f.items) {
		t.Fatal(f, list, e, l, g)
	}
}

// P12.9: a last line that was accepted is struck.
func TestStruck(t *testing.T) {
	r := rand.New(rand.NewPCG(12, 2))
	struck := 0
	for range 8000 {
		l := someLines(r, 59, []sizes{few, some, crowded, wide}[r.IntN(4)])
		f := returned(t, l)
		if len(l) == 0 || f.errors[len(l)-1] != api.OK || strings.HasPrefix(l[len(l)-1], "strike") {
			continue
		}
		struck++
		before := returned(t, l[:len(l)-1])
		after := returned(t, append(l, words("strike", int64(len(l)))))
		if after.errors[len(l)] != api.OK || !slices.Equal(after.items, before.items) || after.fair != before.fair {
			t.Fatalf("%q %v %v", l, before, after)
		}
	}
	if struck < 1000 {
		t.Error(struck)
	}
}

// P12.4, P12.5, P12.6: all protocols of a few lines, against the definitions.
func TestAllProtocols(t *testing.T) {
	for _, x := range []struct {
		begin, all string
		count      int
	}{
		{"", "day 1;day 2;box 1;box 2;sing 1 1 1;move 1;strike 1;strike 2;strike 3", 4},
		{"day 1;box 1;sing 1 1 1", "box 2;copy 2 1;crack 1;move 1;strike 2;strike 3;strike 4;strike 5", 4},
		{"day 1;box 1;sing 1 1 1;box 2;copy 2 1", "move 1;move 2;crack 2;day 2;box 1;strike 3;strike 4;strike 5;strike 6;strike 7;copy 3 2", 3},
		{"day 1;box 1;" + sung(1, 11), "sing 12 1 1;copy 13 1;box 2;move 1;box 1;move 12;strike 14;strike 15;strike 3", 4},
	} {
		lines := linesOf(text(x.begin))
		all := linesOf(text(x.all))
		var try func(l []string, left int)
		try = func(l []string, left int) {
			f := returned(t, l)
			if want := defined(l); !f.isEqual(want) {
				t.Fatalf("%q\n%v\n%v", l, f, want)
			}
			if left == 0 {
				return
			}
			for _, line := range all {
				try(append(l[:len(l):len(l)], line), left-1)
			}
		}
		try(lines, x.count)
	}
}

// someNumber returns a random number of a cylinder, of any length.
func someNumber(r *rand.Rand) int64 { return 1 + r.Int64N(1<<r.IntN(41)) }

// P12.1, P12.10: all marks with one digit that is another one, or with two that are exchanged.
func TestMarks(t *testing.T) {
	r := rand.New(rand.NewPCG(12, 3))
	for i := range int64(6000) {
		n := i + 1
		if i >= 3000 {
			n = someNumber(r)
		}
		m, e := protocol.Mark(n)
		digits := []byte(m)
		all, _ := strconv.ParseInt(m, 10, 64)
		if again, f := protocol.CheckMark(m); e != api.OK || f != api.OK || again != n || (all-1)%97 != 0 || all/100 != n || all%100 > 96 {
			t.Fatal(n, m, e, again, f)
		}
		for at, digit := range digits {
			for other := byte('0'); other <= '9'; other++ {
				digits[at] = other
				checkWrong(t, digits, other != digit)
			}
			digits[at] = digit
			if at > 0 {
				digits[at-1], digits[at] = digits[at], digits[at-1]
				checkWrong(t, digits, digits[at-1] != digits[at])
				digits[at-1], digits[at] = digits[at], digits[at-1]
			}
		}
	}
}

// checkWrong checks that a mark is none, if it is wrong.
func checkWrong(t *testing.T, mark []byte, isWrong bool) {
	t.Helper()
	if n, e := protocol.CheckMark(string(mark)); isWrong == (e == api.OK) || isWrong && n != 0 {
		t.Fatal(string(mark), n, e)
	}
}

// P12.1: of all short numbers just those are marks that Mark returns.
func TestAllMarks(t *testing.T) {
	marks := map[string]int64{}
	for n := range int64(1000) {
		m, _ := protocol.Mark(n)
		marks[m] = n
	}
	for n := range int64(100000) {
		word := strconv.FormatInt(n, 10)
		want := api.ErrSum
		if n < 100 {
			want = api.ErrForm
		} else if marks[word] != 0 {
			want = api.OK
		}
		if number, e := protocol.CheckMark(word); e != want || e == api.OK && number != marks[word] {
			t.Fatal(word, number, e)
		}
		if number, e := protocol.CheckMark("0" + word); number != 0 || e != api.ErrForm {
			t.Fatal(word, number, e)
		}
	}
}

// someDepths returns random depths, some of which are close together.
func someDepths(r *rand.Rand) []int64 {
	var l []int64
	depth := r.Int64N(1001)
	far := []int64{1, 9, 150, 1000}[r.IntN(4)]
	for range r.IntN(201) {
		l = append(l, depth)
		depth = min(max(0, depth-far+r.Int64N(2*far+1)), 1000)
	}
	return l
}

// P12.2, P12.11: random depths, and all that depths can differ by.
func TestDepths(t *testing.T) {
	r := rand.New(rand.NewPCG(12, 4))
	check := func(depths []int64) {
		file, e := protocol.Encode(depths)
		if e != api.OK || file != fileOf(depths) {
			t.Fatalf("%v %q %d", depths, file, e)
		}
		if l, e := protocol.Decode(file); e != api.OK || !slices.Equal(l, depths) {
			t.Fatalf("%v %v %d", depths, l, e)
		}
	}
	for range 3000 {
		check(someDepths(r))
	}
	for depth := range int64(1001) {
		check([]int64{depth})
		check([]int64{0, depth, 0})
		check([]int64{1000, depth, 1000})
	}
}

// P12.2, P12.11: of all short texts just those are groove files that Encode returns.
func TestAllFiles(t *testing.T) {
	const most = 4
	files := map[string]bool{}
	var grow func(depths []int64)
	grow = func(depths []int64) {
		file := fileOf(depths)
		if len(file) > most {
			return
		}
		files[file] = true
		for depth := range int64(1001) {
			if len(file) < most {
				grow(append(depths[:len(depths):len(depths)], depth))
			}
		}
	}
	grow(nil)
	letters := "ABCDEFGHIJKLMNOPQabcdefghijklmnopq\n"
	accepted := 0
	var try func(file string)
	try = func(file string) {
		l, e := protocol.Decode(file)
		if (e == api.OK) != files[file] || e == api.OK && fileOf(l) != file {
			t.Fatalf("%q %v %d", file, l, e)
		}
		if e == api.OK {
			accepted++
		}
		for i := range letters {
			if len(file) < most {
				try(file + letters[i:i+1])
			}
		}
	}
	try("")
	if accepted != len(files) || accepted < 2000 {
		t.Error(accepted, len(files))
	}
}

// spoilt returns a text in which a byte was changed, put in, left out or exchanged with the next one, at random.
func spoilt(r *rand.Rand, text string, letters string) string {
	l := []byte(text)
	at := r.IntN(len(l) + 1)
	letter := letters[r.IntN(len(letters))]
	switch kind := r.IntN(4); {
	case kind == 0 || at == len(l):
		l = slices.Insert(l, at, letter)
	case kind == 1:
		l[at] = letter
	case kind == 2 || at == 0:
		l = slices.Delete(l, at, at+1)
	default:
		l[at-1], l[at] = l[at], l[at-1]
	}
	return string(l)
}

// P12.11: what Decode accepts is what Encode writes.
func TestSpoiltFiles(t *testing.T) {
	r := rand.New(rand.NewPCG(12, 5))
	accepted := 0
	for range 40000 {
		file := spoilt(r, fileOf(someDepths(r)), "ABHNOPabdhnop\nQq \r\x00")
		l, e := protocol.Decode(file)
		if e != api.OK && (e != api.ErrForm || l != nil) {
			t.Fatalf("%q %v %d", file, l, e)
		}
		if again, f := protocol.Encode(l); e == api.OK && (f != api.OK || again != file) {
			t.Fatalf("%q %v %q %d", file, l, again, f)
		}
		if e == api.OK {
			accepted++
		}
	}
	if accepted < 100 || accepted > 39000 {
		t.Error(accepted)
	}
}

// someCard returns a random card that is valid.
func someCard(r *rand.Rand) api.ProtocolCard {
	c := api.ProtocolCard{Kind: 1 + r.IntN(7), A: someNumber(r)}
	switch c.Kind {
	case api.ProtocolDay:
		c.A = 1 + r.Int64N(100000)
	case api.ProtocolBox:
		c.A = 1 + r.Int64N(999)
	case api.ProtocolSing:
		c.B, c.C = 1+r.Int64N(99), 1+r.Int64N(400)
	case api.ProtocolCopy:
		c.B = someNumber(r)
	case api.ProtocolStrike:
		c.A = 1 + r.Int64N(60)
	}
	return c
}

// P12.3, P12.11: random cards, and what Parse accepts of spoilt lines.
func TestCards(t *testing.T) {
	r := rand.New(rand.NewPCG(12, 6))
	accepted := 0
	for range 60000 {
		c := someCard(r)
		line, e := protocol.Line(c)
		if again, ok := cardOf(line); e != api.OK || !ok || again != c {
			t.Fatalf("%v %q %d", c, line, e)
		}
		if again, e := protocol.Parse(line); again != c || e != api.OK {
			t.Fatalf("%q %v %d", line, again, e)
		}
		other := spoilt(r, line, "0123456789  +-.acdeghiknmoprstvxy\n\r\x00")
		want, ok := cardOf(other)
		again, f := protocol.Parse(other)
		if again != want || (f == api.OK) != ok || !ok && f != api.ErrForm {
			t.Fatalf("%q %v %d", other, again, f)
		}
		if ok {
			accepted++
		}
	}
	if accepted < 1000 {
		t.Error(accepted)
	}
}

// someItems returns random cylinders that have a shelf list.
func someItems(r *rand.Rand) []api.ProtocolItem {
	var l []api.ProtocolItem
	count := map[int64]int{}
	boxes := 1 + r.Int64N(999)
	if r.IntN(2) == 0 {
		boxes = 1 + r.Int64N(4)
	}
	var number int64
	for range r.IntN(61) {
		number += 1 + r.Int64N([]int64{1, 9, 1 << 33}[r.IntN(3)])
		box := 1 + r.Int64N(boxes)
		if count[box]++; count[box] > 12 {
			continue
		}
		c := api.ProtocolItem{Number: number, Box: box, Day: 1 + r.Int64N(100000), Voice: 1 + r.Int64N(99), Turns: 1 + r.Int64N(400), Cracked: r.IntN(3) == 0}
		if r.IntN(2) == 0 {
			c.From = someNumber(r)
		}
		l = append(l, c)
	}
	return l
}

// P12.7, P12.11: random cylinders.
func TestLists(t *testing.T) {
	r := rand.New(rand.NewPCG(12, 7))
	for range 6000 {
		l := someItems(r)
		list, e := protocol.List(l)
		if e != api.OK || list != shelfOf(t, l) {
			t.Fatalf("%v %q %d", l, list, e)
		}
		if again, e := protocol.ReadList(list); e != api.OK || !slices.Equal(again, l) {
			t.Fatalf("%q %v %d", list, again, e)
		}
	}
}

// P12.7, P12.11: what ReadList accepts of spoilt lists is what List writes.
func TestSpoiltLists(t *testing.T) {
	r := rand.New(rand.NewPCG(12, 8))
	accepted := 0
	for range 15000 {
		list := shelfOf(t, someItems(r))
		if lines := linesOf(list); len(lines) > 1 && r.IntN(2) == 0 {
			list = spoiltLines(r, lines)
		} else {
			list = spoilt(r, list, "0123456789  box-+\n\r\x00")
		}
		l, e := protocol.ReadList(list)
		if e != api.OK && (e != api.ErrForm || l != nil) {
			t.Fatalf("%q %v %d", list, l, e)
		}
		if again, f := protocol.List(l); e == api.OK && (f != api.OK || again != list || shelfOf(t, l) != list) {
			t.Fatalf("%q %v %q %d", list, l, again, f)
		}
		if e == api.OK {
			accepted++
		}
	}
	if accepted < 1000 || accepted > 14000 {
		t.Error(accepted)
	}
}

// spoiltLines returns a list in which a line is left out, comes twice, or is exchanged with another one.
func spoiltLines(r *rand.Rand, lines []string) string {
	one, two := r.IntN(len(lines)), r.IntN(len(lines))
	switch r.IntN(3) {
	case 0:
		lines = slices.Delete(lines, one, one+1)
	case 1:
		lines = slices.Insert(lines, one, lines[two])
	default:
		lines[one], lines[two] = lines[two], lines[one]
	}
	return strings.Join(lines, "\n") + "\n"
}

// P12.7: of all orders of the lines of a list only one is its list.
func TestOrders(t *testing.T) {
	list := []byte("box 2\n195 1 1 1 0 0\n389 1 1 1 0 0\nbox 7\n292 1 1 1 0 1\n")
	lines := linesOf(string(list))
	accepted := 0
	var try func(at int)
	try = func(at int) {
		if at == len(lines) {
			text := strings.Join(lines, "\n") + "\n"
			l, e := protocol.ReadList(text)
			if e == api.OK {
				accepted++
			}
			if e == api.OK && shelfOf(t, l) != text || bytes.Equal(list, []byte(text)) && e != api.OK {
				t.Error(text, l, e)
			}
			return
		}
		for i := at; i < len(lines); i++ {
			lines[at], lines[i] = lines[i], lines[at]
			try(at + 1)
			lines[at], lines[i] = lines[i], lines[at]
		}
	}
	try(0)
	// Each of three cylinders may be in each of the two boxes, if none of these is empty: 2^3 - 2.
	if accepted != 6 {
		t.Error(accepted)
	}
}
