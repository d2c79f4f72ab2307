package protocol_test

import (
	"math"
	"slices"
	"strconv"
	"strings"
	"testing"

	"mandrel/api"
	"mandrel/protocol"
)

// text returns a protocol, or a shelf list, of the lines that have semicolons between them.
func text(lines string) string {
	if lines == "" {
		return ""
	}
	var l []string
	for line := range strings.SplitSeq(lines, ";") {
		l = append(l, strings.Trim(line, " ")+"\n")
	}
	return strings.Join(l, "")
}

// items returns cylinders, each read from its Number, Box, Day, Voice, Turns and From, with an x behind if it is cracked; semicolons are between them.
func items(cylinders string) []api.ProtocolItem {
	var l []api.ProtocolItem
	for x := range strings.SplitSeq(cylinders, ";") {
		words := strings.Fields(x)
		if len(words) < 6 {
			continue
		}
		var n [6]int64
		for i := range n {
			n[i], _ = strconv.ParseInt(words[i], 10, 64)
		}
		l = append(l, api.ProtocolItem{Number: n[0], Box: n[1], Day: n[2], Voice: n[3], Turns: n[4], From: n[5], Cracked: len(words) > 6})
	}
	return l
}

// names returns the short names of errors, with spaces between them.
func names(errors []api.Errno) string {
	known := map[api.Errno]string{
		api.OK: "OK", api.ErrRange: "Range", api.ErrNone: "None", api.ErrForm: "Form", api.ErrState: "State", api.ErrFull: "Full",
		api.ErrHave: "Have", api.ErrLate: "Late", api.ErrEqual: "Equal", api.ErrWorn: "Worn", api.ErrOrder: "Order",
	}
	var l []string
	for _, e := range errors {
		l = append(l, known[e])
	}
	return strings.Join(l, " ")
}

// sung returns the lines that sing the cylinders from a number to another one.
func sung(from, to int) string {
	var l []string
	for n := from; n <= to; n++ {
		l = append(l, "sing "+strconv.Itoa(n)+" 1 1")
	}
	return strings.Join(l, ";")
}

// The chapter's examples.
func TestExamples(t *testing.T) {
	if m, e := protocol.Mark(123); m != "12320" || e != api.OK {
		t.Error(m, e)
	}
	for mark, want := range map[string]api.Errno{"12320": api.OK, "12321": api.ErrSum, "13220": api.ErrSum} {
		if n, e := protocol.CheckMark(mark); e != want || (n == 123) != (e == api.OK) {
			t.Error(mark, n, e)
		}
	}
	if file, e := protocol.Encode([]int64{5, 5, 3, 100}); file != "kadMc\n" || e != api.OK {
		t.Error(file, e)
	}
	if line, e := protocol.Line(api.ProtocolCard{Kind: api.ProtocolSing, A: 11, B: 5, C: 90}); line != "sing 11 5 90" || e != api.OK {
		t.Error(line, e)
	}
	j := text("day 3; box 7; sing 11 5 90; copy 12 11; day 2; crack 11; copy 13 11; strike 4; strike 3")
	if errors, e := protocol.Run(j); names(errors) != "OK OK OK OK Late OK Worn OK Order" || e != api.OK {
		t.Error(errors, e)
	}
	l, e := protocol.State(j)
	if !slices.Equal(l, items("11 7 3 5 90 0 x")) || e != api.OK {
		t.Error(l, e)
	}
	if fair, e := protocol.Fair(j); fair != text("day 3; box 7; sing 11 5 90; crack 11") || e != api.OK {
		t.Error(fair, e)
	}
	if list, e := protocol.List(l); list != text("box 7; 1165 3 5 90 0 1") || e != api.OK {
		t.Error(list, e)
	}
}

// P12.1: marks of numbers, and numbers that have none.
func TestMark(t *testing.T) {
	for _, x := range []struct {
		number int64
		mark   string
		e      api.Errno
	}{
		{1, "195", api.OK},
		{2, "292", api.OK},
		{11, "1165", api.OK},
		// The last digits from 0 to 96, with a zero in front of those below 10.
		{33, "3396", api.OK},
		{65, "6500", api.OK},
		{97, "9701", api.OK},
		{162, "16200", api.OK},
		{32, "3202", api.OK},
		{123, "12320", api.OK},
		{api.MaxNumber - 1, "109951162777590", api.OK},
		{api.MaxNumber, "109951162777687", api.OK},
		{api.MaxNumber + 1, "", api.ErrRange},
		{0, "", api.ErrRange},
		{-1, "", api.ErrRange},
		{-123, "", api.ErrRange},
		{math.MaxInt64, "", api.ErrRange},
		{math.MinInt64, "", api.ErrRange},
	} {
		m, e := protocol.Mark(x.number)
		if m != x.mark || e != x.e {
			t.Error(x, m, e)
		}
		if n, e := protocol.CheckMark(x.mark); x.e == api.OK && (n != x.number || e != api.OK) {
			t.Error(x, n, e)
		}
	}
}

// P12.1: texts that are no marks.
func TestCheckMark(t *testing.T) {
	for mark, want := range map[string]api.Errno{
		"195":                         api.OK,
		"194":                         api.ErrSum,
		"196":                         api.ErrSum,
		"100":                         api.ErrSum,
		"951":                         api.ErrSum,
		"197":                         api.ErrSum,
		"198":                         api.ErrSum,
		"199":                         api.ErrSum,
		"6500":                        api.OK,
		"6597":                        api.ErrSum,
		"9701":                        api.OK,
		"9798":                        api.ErrSum,
		"109951162777687":             api.OK,
		"109951162777688":             api.ErrSum,
		"109951162777710":             api.ErrForm,
		"109951162777707":             api.ErrForm,
		"999999999999999":             api.ErrForm,
		"1099511627776870":            api.ErrForm,
		"":                            api.ErrForm,
		"1":                           api.ErrForm,
		"95":                          api.ErrForm,
		"01":                          api.ErrForm,
		"001":                         api.ErrForm,
		"000":                         api.ErrForm,
		"0195":                        api.ErrForm,
		"0001":                        api.ErrForm,
		" 195":                        api.ErrForm,
		"195 ":                        api.ErrForm,
		"195\n":                       api.ErrForm,
		"1 95":                        api.ErrForm,
		"+195":                        api.ErrForm,
		"-195":                        api.ErrForm,
		"1+5":                         api.ErrForm,
		"1-5":                         api.ErrForm,
		"19a":                         api.ErrForm,
		"1/5":                         api.ErrForm,
		"1:5":                         api.ErrForm,
		"x95":                         api.ErrForm,
		"1x95":                        api.ErrForm,
		"1_195":                       api.ErrForm,
		"0x195":                       api.ErrForm,
		"1.95":                        api.ErrForm,
		"\u0661" + "95":               api.ErrForm,
		"1\xff\xff":                   api.ErrForm,
		"1\x00\x00":                   api.ErrForm,
		"9223372036854775807" + "00":  api.ErrForm,
		"18446744073709551617" + "95": api.ErrForm,
		strings.Repeat("9", 100000):   api.ErrForm,
		strings.Repeat("0", 100000):   api.ErrForm,
	} {
		if n, e := protocol.CheckMark(mark); e != want || (n != 0) != (e == api.OK) {
			t.Errorf("%.30q %d %d", mark, n, e)
		}
	}
}

// P12.2: groove files of depths, and lists that have none.
func TestEncode(t *testing.T) {
	ones := slices.Repeat([]int64{0}, 200)
	for i, x := range []struct {
		depths []int64
		file   string
		e      api.Errno
	}{
		{nil, "", api.OK},
		{[]int64{0}, "a\n", api.OK},
		{[]int64{1}, "c\n", api.OK},
		{[]int64{1, 0}, "cb\n", api.OK},
		{[]int64{7}, "o\n", api.OK},
		{[]int64{8}, "Ba\n", api.OK},
		{[]int64{8, 0}, "Bap\n", api.OK},
		{[]int64{9, 0}, "BcBb\n", api.OK},
		{[]int64{127}, "Po\n", api.OK},
		{[]int64{128}, "BAa\n", api.OK},
		{[]int64{128, 0}, "BAaPp\n", api.OK},
		{[]int64{129, 0}, "BAcBAb\n", api.OK},
		{[]int64{1000, 0, 1000}, "HNaHMpHNa\n", api.OK},
		{[]int64{5, 5, 3, 100}, "kadMc\n", api.OK},
		{ones[:19], strings.Repeat("a", 19) + "\n", api.OK},
		{ones[:20], strings.Repeat("a", 20) + "\n", api.OK},
		{ones[:21], strings.Repeat("a", 20) + "\na\n", api.OK},
		{ones[:40], strings.Repeat(strings.Repeat("a", 20)+"\n", 2), api.OK},
		{ones[:41], strings.Repeat(strings.Repeat("a", 20)+"\n", 2) + "a\n", api.OK},
		// The row does not begin anew: the depth before it counts.
		{slices.Concat(ones[:19], []int64{3, 3, 4}), strings.Repeat("a", 19) + "g\nac\n", api.OK},
		{ones[:199], strings.Repeat(strings.Repeat("a", 20)+"\n", 9) + strings.Repeat("a", 19) + "\n", api.OK},
		{ones, strings.Repeat(strings.Repeat("a", 20)+"\n", 10), api.OK},
		{make([]int64, 201), "", api.ErrMany},
		{make([]int64, 100000), "", api.ErrMany},
		{[]int64{-1}, "", api.ErrRange},
		{[]int64{1001}, "", api.ErrRange},
		{[]int64{0, 1000, 1001}, "", api.ErrRange},
		{[]int64{0, -1, 5}, "", api.ErrRange},
		{[]int64{math.MaxInt64}, "", api.ErrRange},
		{[]int64{math.MinInt64, math.MaxInt64}, "", api.ErrRange},
		{append(ones[:199:199], 1001), "", api.ErrRange},
		{append(make([]int64, 200), 1001), "", api.ErrMany},
		{append(make([]int64, 200), -1), "", api.ErrMany},
	} {
		file, e := protocol.Encode(x.depths)
		if file != x.file || e != x.e {
			t.Errorf("%d %q %d", i, file, e)
		}
		if l, e := protocol.Decode(file); x.e == api.OK && (!slices.Equal(l, x.depths) || e != api.OK) {
			t.Error(i, l, e)
		}
	}
}

// P12.2: texts that are no groove files.
func TestDecode(t *testing.T) {
	row := strings.Repeat("a", 20) + "\n"
	for i, file := range []string{
		"a", "\n", "a\n\n", "\na\n", "a\na\n", "A\n", "B\n", "B", "aB\n", "Ba", "q\n", "Qa\n", "@a\n", "`\n", "a \n", " a\n", "a\r\n", "a\x00\n", "a\xe9\n", "1\n", "a\n1",
		// Zeros in front.
		"Aa\n", "Ab\n", "ABa\n", "AAa\n", "AAAAAAAAAAAAAAAAAAAAAAAAAAAAa\n", "cAb\n",
		// Depths that are below 0 or above 1000, of which a later one would be good again.
		"b\n", "cd\n", "HNc\n", "HNac\n", "bc\n", "HNab\n" + "c", "HNacb\n", "HMp\n", "HNb\n", "aPp\n",
		// Numbers that are too great, also beyond 64 bits.
		"HOa\n", "HNd\n", "BAAa\n", "PPp\n", "PPPp\n", "BAAAAAAAAAAAAAAAa\n", "BAAAAAAAAAAAAAAAAAc\n", "PPPPPPPPPPPPPPPPPPPPPPPPPPPPPPPPPPp\n", strings.Repeat("P", 100000) + "\n",
		// Rows and their ends.
		strings.Repeat("a", 21) + "\n", strings.Repeat("a", 20), row + "\n", row + "a", row + row[1:] + "a\n", strings.Repeat("a", 10) + "\n" + strings.Repeat("a", 10) + "\n", strings.Repeat("a", 40) + "\n",
		// One depth too many.
		strings.Repeat(row, 10) + "a\n", strings.Repeat(row, 11), strings.Repeat(row, 10) + "\n", strings.Repeat("a", 201) + "\n", strings.Repeat(row, 10000), strings.Repeat("\n", 100000), strings.Repeat("a", 100000),
	} {
		if l, e := protocol.Decode(file); l != nil || e != api.ErrForm {
			t.Error(i, l, e)
		}
	}
	if l, e := protocol.Decode(""); len(l) != 0 || e != api.OK {
		t.Error(l, e)
	}
}

// P12.3: the lines of cards of all kinds.
func TestLine(t *testing.T) {
	const top = api.MaxNumber
	for i, x := range []struct {
		c    api.ProtocolCard
		line string
		e    api.Errno
	}{
		{api.ProtocolCard{Kind: 1, A: 1}, "day 1", api.OK},
		{api.ProtocolCard{Kind: 1, A: 100000}, "day 100000", api.OK},
		{api.ProtocolCard{Kind: 2, A: 1}, "box 1", api.OK},
		{api.ProtocolCard{Kind: 2, A: 999}, "box 999", api.OK},
		{api.ProtocolCard{Kind: 3, A: 1, B: 1, C: 1}, "sing 1 1 1", api.OK},
		{api.ProtocolCard{Kind: 3, A: top, B: 99, C: 400}, "sing 1099511627776 99 400", api.OK},
		{api.ProtocolCard{Kind: 4, A: 1, B: 1}, "copy 1 1", api.OK},
		{api.ProtocolCard{Kind: 4, A: top, B: top}, "copy 1099511627776 1099511627776", api.OK},
		{api.ProtocolCard{Kind: 5, A: 1}, "crack 1", api.OK},
		{api.ProtocolCard{Kind: 5, A: top}, "crack 1099511627776", api.OK},
		{api.ProtocolCard{Kind: 6, A: 1}, "move 1", api.OK},
		{api.ProtocolCard{Kind: 6, A: top}, "move 1099511627776", api.OK},
		{api.ProtocolCard{Kind: 7, A: 1}, "strike 1", api.OK},
		{api.ProtocolCard{Kind: 7, A: 60}, "strike 60", api.OK},
		{api.ProtocolCard{}, "", api.ErrArg},
		{api.ProtocolCard{A: 1}, "", api.ErrArg},
		{api.ProtocolCard{Kind: 8, A: 1}, "", api.ErrArg},
		{api.ProtocolCard{Kind: -1, A: 1}, "", api.ErrArg},
		{api.ProtocolCard{Kind: math.MaxInt, A: -1}, "", api.ErrArg},
		{api.ProtocolCard{Kind: math.MinInt, A: -1}, "", api.ErrArg},
		{api.ProtocolCard{Kind: 1, A: 100001}, "", api.ErrRange},
		{api.ProtocolCard{Kind: 2, A: 1000}, "", api.ErrRange},
		{api.ProtocolCard{Kind: 3, A: top + 1, B: 1, C: 1}, "", api.ErrRange},
		{api.ProtocolCard{Kind: 3, A: 1, B: 100, C: 1}, "", api.ErrRange},
		{api.ProtocolCard{Kind: 3, A: 1, B: 1, C: 401}, "", api.ErrRange},
		{api.ProtocolCard{Kind: 3, B: 1, C: 1}, "", api.ErrRange},
		{api.ProtocolCard{Kind: 3, A: 1, C: 1}, "", api.ErrRange},
		{api.ProtocolCard{Kind: 3, A: 1, B: 1}, "", api.ErrRange},
		{api.ProtocolCard{Kind: 4, A: top + 1, B: 1}, "", api.ErrRange},
		{api.ProtocolCard{Kind: 4, A: 1, B: top + 1}, "", api.ErrRange},
		{api.ProtocolCard{Kind: 4, A: 1}, "", api.ErrRange},
		{api.ProtocolCard{Kind: 4, B: 1}, "", api.ErrRange},
		{api.ProtocolCard{Kind: 4, A: 1, B: 1, C: 1}, "", api.ErrRange},
		{api.ProtocolCard{Kind: 5, A: top + 1}, "", api.ErrRange},
		{api.ProtocolCard{Kind: 6, A: top + 1}, "", api.ErrRange},
		{api.ProtocolCard{Kind: 7, A: 61}, "", api.ErrRange},
		{api.ProtocolCard{Kind: 1, A: 1, B: -1}, "", api.ErrRange},
		{api.ProtocolCard{Kind: 1, A: 1, C: math.MaxInt64}, "", api.ErrRange},
	} {
		line, e := protocol.Line(x.c)
		if line != x.line || e != x.e {
			t.Error(i, line, e)
		}
		if c, e := protocol.Parse(line); x.e == api.OK && (c != x.c || e != api.OK) {
			t.Error(i, c, e)
		}
	}
	for _, kind := range []int{1, 2, 5, 6, 7} {
		for _, c := range []api.ProtocolCard{{A: 0}, {A: -1}, {A: math.MinInt64}, {A: math.MaxInt64}, {A: 1, B: 1}, {A: 1, C: 1}, {A: 1, B: 1, C: 1}} {
			c.Kind = kind
			if line, e := protocol.Line(c); line != "" || e != api.ErrRange {
				t.Error(c, line, e)
			}
		}
	}
}

// P12.3: texts that are the line of no card.
func TestParse(t *testing.T) {
	for _, line := range []string{
		"", " ", "\n", "day", "day ", "day  ", " day 1", "day 1 ", "day  1", "day\t1", "day 1\n", "\nday 1", "day 1\r", "day 1\x00", "Day 1", "DAY 1", "day1", "days 1", "da 1", "d 1", "1", "1 day", "day -1", "day +1", "day 0", "day 01", "day 1.0", "day 1e3", "day 0x1", "day 1_0", "day x", "day 1 1", "day 1 0", "day 1 0 0", "day 100001", "day 9223372036854775808", "day 18446744073709551617", "day \u0661",
		"box", "box 0", "box 1000", "box 1 1", "box 007", "boxes 7",
		"sing", "sing 1", "sing 1 1", "sing 1 1 1 1", "sing 1 1 1 0", "sing 1 1 1 ", "sing  1 1 1", "sing 1  1 1", "sing 1 1  1", "sing 0 1 1", "sing 1 0 1", "sing 1 1 0", "sing 1099511627777 1 1", "sing 1 100 1", "sing 1 1 401", "sing 01 1 1", "sing 1 01 1", "sing 1 1 01", "sing 1 -1 1", "sing 1 1 1 x", "sing x 1 1", "sing 1,1,1",
		"copy", "copy 1", "copy 1 1 1", "copy 1 1 0", "copy 0 1", "copy 1 0", "copy 1099511627777 1", "copy 1 1099511627777", "copy 1  1",
		"crack", "crack 0", "crack 1099511627777", "crack 1 1", "move", "move 0", "move 1099511627777", "move 1 1", "move 1 7",
		"strike", "strike 0", "strike 61", "strike 1 1", "strike 100", "strike -1",
		"open 1", "none 1", "0 1", "1 1", strings.Repeat("day ", 100000), "day " + strings.Repeat("1", 100000), "day " + strings.Repeat(" ", 100000), "day 1\nbox 1",
	} {
		if c, e := protocol.Parse(line); c != (api.ProtocolCard{}) || e != api.ErrForm {
			t.Errorf("%.30q %v %d", line, c, e)
		}
	}
}

// The errors of texts, which Run, State and Fair return before all others.
func TestTexts(t *testing.T) {
	full := strings.Repeat("x", api.MaxText)
	for i, x := range []struct {
		text string
		e    api.Errno
	}{
		{"", api.OK},
		{"\n", api.OK},
		{strings.Repeat("\n", 60), api.OK},
		{strings.Repeat("day 1\n", 60), api.OK},
		{full[1:] + "\n", api.OK},
		{full[60:] + strings.Repeat("\n", 60), api.OK},
		{"x", api.ErrForm},
		{"day 1", api.ErrForm},
		{"day 1\n ", api.ErrForm},
		{"day 1\nbox 1", api.ErrForm},
		{"day 1\r", api.ErrForm},
		{strings.Repeat("\n", 60) + "x", api.ErrForm},
		{strings.Repeat("\n", 61) + "x", api.ErrForm},
		{full, api.ErrForm},
		{strings.Repeat("\n", 61), api.ErrMany},
		{strings.Repeat("day 1\n", 61), api.ErrMany},
		{strings.Repeat("\n", api.MaxText), api.ErrMany},
		{full[61:] + strings.Repeat("\n", 61), api.ErrMany},
		{full + "\n", api.ErrLong},
		{full + "x", api.ErrLong},
		{strings.Repeat("\n", api.MaxText+1), api.ErrLong},
		{strings.Repeat("\n", api.MaxText) + "x", api.ErrLong},
	} {
		errors, e := protocol.Run(x.text)
		if e != x.e || e == api.OK && len(errors) != strings.Count(x.text, "\n") || e != api.OK && errors != nil {
			t.Error(i, errors, e)
		}
		if l, e := protocol.State(x.text); e != x.e || len(l) != 0 {
			t.Error(i, l, e)
		}
		if fair, e := protocol.Fair(x.text); e != x.e || e != api.OK && fair != "" {
			t.Error(i, fair, e)
		}
	}
}

// P12.4, P12.5, P12.6: lines of all kinds, those that are refused, and what comes of all of them.
func TestProtocols(t *testing.T) {
	for i, x := range []struct{ lines, errors, fair, state string }{
		{"", "", "", ""},
		// Lines that are no cards change nothing.
		{"day 1;;box 1; box 1 1; sing 1 2; sing 1 2 3; strike 0; strike 61; day 01", "OK Form OK Form Form OK Form Form Form", "day 1; box 1; sing 1 2 3", "1 1 1 2 3 0"},
		// day
		{"day 1; day 1; day 2; day 1; day 100000; day 100000", "OK Late OK Late OK Late", "day 1; day 2; day 100000", ""},
		{"day 5; box 1; day 4; sing 1 1 1; day 6; sing 2 1 1", "OK OK Late OK OK OK", "day 5; box 1; sing 1 1 1; day 6; sing 2 1 1", "1 1 5 1 1 0; 2 1 6 1 1 0"},
		// box
		{"box 1; sing 1 1 1; day 1; sing 1 1 1; box 1; box 1; box 2; sing 1 1 1", "State State OK State OK OK OK OK", "day 1; box 1; box 1; box 2; sing 1 1 1", "1 2 1 1 1 0"},
		{"day 1; box 999; sing 1099511627776 99 400; box 1; sing 3 4 5", "OK OK OK OK OK", "day 1; box 999; sing 1099511627776 99 400; box 1; sing 3 4 5", "3 1 1 4 5 0; 1099511627776 999 1 99 400 0"},
		// sing
		{"day 1; box 1; sing 1 1 1; sing 1 2 2; box 2; sing 1 3 3", "OK OK OK Have OK Have", "day 1; box 1; sing 1 1 1; box 2", "1 1 1 1 1 0"},
		{"day 1; box 1;" + sung(1, 13) + "; sing 5 1 1; box 2; sing 13 1 1", "OK OK" + strings.Repeat(" OK", 12) + " Full Have OK OK", "day 1; box 1;" + sung(1, 12) + "; box 2; sing 13 1 1", boxed(1, 12, 1) + "; 13 2 1 1 1 0"},
		// copy: first as sing, then by the one that is copied.
		{"copy 1 1; day 1; copy 1 2; box 1; copy 1 1; copy 1 2; sing 1 1 1; copy 1 2; copy 1 1; copy 2 1; copy 3 2", "State OK State OK None None OK Have Have OK OK", "day 1; box 1; sing 1 1 1; copy 2 1; copy 3 2", "1 1 1 1 1 0; 2 1 1 1 1 1; 3 1 1 1 1 2"},
		{"day 1; box 1; sing 9 7 8; day 4; box 3; copy 2 9; crack 9; copy 3 9; copy 2 9; copy 3 2; copy 4 5", "OK OK OK OK OK OK OK Worn Have OK None", "day 1; box 1; sing 9 7 8; day 4; box 3; copy 2 9; crack 9; copy 3 2", "2 3 4 7 8 9; 3 3 4 7 8 2; 9 1 1 7 8 0 x"},
		{"day 1; box 1;" + sung(1, 12) + "; crack 1; copy 13 1; copy 13 14; copy 13 2; copy 2 1; box 2; copy 13 1; copy 13 14; copy 13 2", "OK OK" + strings.Repeat(" OK", 12) + " OK Full Full Full Have OK Worn None OK", "day 1; box 1;" + sung(1, 12) + "; crack 1; box 2; copy 13 2", strings.Replace(boxed(1, 12, 1), ";", " x;", 1) + "; 13 2 1 1 1 2"},
		// crack: no box need be open, and no day.
		{"crack 1; day 1; box 1; sing 1 1 1; crack 2; crack 1; crack 1; sing 1 1 1", "None OK OK OK None OK Worn Have", "day 1; box 1; sing 1 1 1; crack 1", "1 1 1 1 1 0 x"},
		// move: what is cracked can be moved, and stays cracked, and of its day.
		{"move 1; day 1; move 1; box 1; move 1; sing 1 1 1; move 1; day 2; box 2; move 2; move 1; move 1; crack 1; box 1; move 1", "State OK State OK None OK Equal OK OK None OK Equal OK OK OK", "day 1; box 1; sing 1 1 1; day 2; box 2; move 1; crack 1; box 1; move 1", "1 1 1 1 1 0 x"},
		{"day 1; box 2; sing 99 1 1; box 1;" + sung(1, 12) + "; move 99; move 98; move 1; box 2; move 1; box 1; move 99; move 1", "OK OK OK OK" + strings.Repeat(" OK", 12) + " Full None Equal OK OK OK OK Full", "day 1; box 2; sing 99 1 1; box 1;" + sung(1, 12) + "; box 2; move 1; box 1; move 99", "1 2 1 1 1 0;" + boxed(2, 12, 1) + "; 99 1 1 1 1 0"},
	} {
		checkProtocol(t, i, x.lines, x.errors, x.fair, x.state)
	}
}

// boxed returns, for items, the cylinders that sung sings into a box on the day 1.
func boxed(from, to, box int) string {
	var l []string
	for n := from; n <= to; n++ {
		l = append(l, strconv.Itoa(n)+" "+strconv.Itoa(box)+" 1 1 1 0")
	}
	return strings.Join(l, ";")
}

// checkProtocol checks what Run, Fair and State return.
func checkProtocol(t *testing.T, i int, lines, errors, fair, state string) {
	t.Helper()
	if l, e := protocol.Run(text(lines)); names(l) != errors || e != api.OK {
		t.Error(i, names(l), e)
	}
	if f, e := protocol.Fair(text(lines)); f != text(fair) || e != api.OK {
		t.Errorf("%d %q %d", i, f, e)
	}
	if l, e := protocol.State(text(lines)); !slices.Equal(l, items(state)) || e != api.OK {
		t.Error(i, l, e)
	}
}

// P12.4, P12.5, P12.6: lines that are struck, and strikes that are refused.
func TestStrikes(t *testing.T) {
	for i, x := range []struct{ lines, errors, fair, state string }{
		// Lines that do not come before, or do not count.
		{"strike 1; strike 2; strike 4; day 1; strike 60", "Range Range Range OK Range", "day 1", ""},
		{"day 1; strike 1; strike 1; strike 2; box 1; strike 4", "OK OK Range Range State Range", "", ""},
		{"day 2; day 1; strike 2; strike 3; x; strike 5; strike 1; day 1; strike 8", "OK Late Range Range Form Range OK OK OK", "", ""},
		{"day 1; strike 60; strike 1", "OK Range OK", "", ""},
		// A strike that was refused is none of the lines that count, and the line may be struck later.
		{"day 1; box 1; strike 1; strike 2; strike 3; strike 1; strike 4", "OK OK Order OK Range OK Range", "", ""},
		// A line that was refused stays so, even if it would be accepted now.
		{"day 1; box 1; sing 1 1 1; crack 1; copy 2 1; sing 1 2 2; strike 4; strike 3", "OK OK OK OK Worn Have OK OK", "day 1; box 1", ""},
		{"day 5; day 3; strike 1; strike 2; day 1; box 2", "OK Late OK Range OK OK", "day 1; box 2", ""},
		// What is struck can be written again.
		{"day 1; box 1; sing 1 1 1; strike 3; sing 1 2 2; strike 3; copy 2 1", "OK OK OK OK OK Range OK", "day 1; box 1; sing 1 2 2; copy 2 1", "1 1 1 2 2 0; 2 1 1 2 2 1"},
		{"day 9; strike 1; day 1; strike 3; day 1", "OK OK OK OK OK", "day 1", ""},
		// Without a day, all that came on it was of the day before.
		{"day 1; box 1; day 2; sing 1 1 1; strike 3; sing 2 1 1; day 2; sing 3 1 1", "OK OK OK OK OK OK OK OK", "day 1; box 1; sing 1 1 1; sing 2 1 1; day 2; sing 3 1 1", "1 1 1 1 1 0; 2 1 1 1 1 0; 3 1 2 1 1 0"},
		{"day 1; day 2; box 1; sing 1 1 1; strike 1; strike 2", "OK OK OK OK OK Order", "day 2; box 1; sing 1 1 1", "1 1 2 1 1 0"},
		// Without a box, all went into the box before it; if there was none, nothing could.
		{"day 1; box 1; box 2; sing 1 1 1; strike 3; strike 2; sing 2 1 1", "OK OK OK OK OK Order OK", "day 1; box 1; sing 1 1 1; sing 2 1 1", "1 1 1 1 1 0; 2 1 1 1 1 0"},
		{"day 1; box 1; box 2; strike 3; sing 1 1 1", "OK OK OK OK OK", "day 1; box 1; sing 1 1 1", "1 1 1 1 1 0"},
		{"day 1; box 1; strike 2; sing 1 1 1; move 1; strike 1; box 1; day 2", "OK OK OK State State OK State OK", "day 2", ""},
		// What was cracked, moved or copied by a line that is struck was not.
		{"day 1; box 1; sing 1 1 1; crack 1; strike 4; copy 2 1; crack 1; strike 7", "OK OK OK OK OK OK OK OK", "day 1; box 1; sing 1 1 1; copy 2 1", "1 1 1 1 1 0; 2 1 1 1 1 1"},
		{"day 1; box 1; sing 1 1 1; box 2; move 1; strike 5; move 1; box 1; strike 4; move 1; strike 7; strike 4", "OK OK OK OK OK OK OK OK Order OK Order Order", "day 1; box 1; sing 1 1 1; box 2; move 1; box 1; move 1", "1 1 1 1 1 0"},
		{"day 1; box 1; sing 1 1 1; copy 2 1; copy 3 2; strike 3; strike 4; strike 5; strike 3; strike 4; strike 3; sing 2 7 7", "OK OK OK OK OK Order Order OK Order OK OK OK", "day 1; box 1; sing 2 7 7", "2 1 1 7 7 0"},
		{"day 1; box 1; sing 1 1 1; crack 1; strike 3; strike 4; strike 3", "OK OK OK OK Order OK OK", "day 1; box 1", ""},
		{"day 1; box 1; sing 1 1 1; copy 2 1; crack 1; strike 4; strike 5; strike 4", "OK OK OK OK OK OK OK Range", "day 1; box 1; sing 1 1 1", "1 1 1 1 1 0"},
		// All that is in a box must have had room in it.
		{"day 1; box 1;" + sung(1, 6) + "; box 2;" + sung(7, 12) + "; strike 9; sing 13 1 1", "OK OK" + strings.Repeat(" OK", 14) + " Full", "day 1; box 1;" + sung(1, 12), boxed(1, 12, 1)},
		{"day 1; box 1;" + sung(1, 6) + "; box 2;" + sung(7, 13) + "; strike 9; strike 10; strike 9", "OK OK" + strings.Repeat(" OK", 14) + " Order OK OK", "day 1; box 1;" + sung(1, 6) + ";" + sung(8, 13), boxed(1, 6, 1) + ";" + boxed(8, 13, 1)},
		{"day 1; box 1;" + sung(1, 12) + "; box 2; move 1; box 1; sing 13 1 1; strike 16; strike 15; strike 18; strike 16", "OK OK" + strings.Repeat(" OK", 12) + " OK OK OK OK Order Order OK OK", "day 1; box 1;" + sung(1, 12) + "; box 2; box 1", boxed(1, 12, 1)},
		{"day 1; box 1;" + sung(1, 12) + "; sing 13 1 1; strike 3; sing 13 1 1", "OK OK" + strings.Repeat(" OK", 12) + " Full OK OK", "day 1; box 1;" + sung(2, 13), boxed(2, 13, 1)},
	} {
		checkProtocol(t, i, x.lines, x.errors, x.fair, x.state)
	}
}

// As many lines as can be: the last one is struck by none, and the line 60 can strike the line 59.
func TestMostLines(t *testing.T) {
	lines := "day 1; box 1;" + sung(1, 12) + "; box 2;" + sung(13, 24) + "; box 3;" + sung(25, 36) + "; box 4;" + sung(37, 48) + "; box 5;" + sung(49, 54)
	state := boxed(1, 12, 1) + ";" + boxed(13, 24, 2) + ";" + boxed(25, 36, 3) + ";" + boxed(37, 48, 4) + ";" + boxed(49, 54, 5)
	checkProtocol(t, 0, lines, "OK"+strings.Repeat(" OK", 59), lines, state)
	last := strings.LastIndex(lines, ";")
	before := strings.LastIndex(lines[:last], ";")
	checkProtocol(t, 1, lines[:last]+"; strike 59", "OK"+strings.Repeat(" OK", 59), lines[:before], strings.TrimSuffix(state, ";53 5 1 1 1 0;54 5 1 1 1 0"))
	checkProtocol(t, 2, lines[:last]+"; strike 60", "OK"+strings.Repeat(" OK", 58)+" Range", lines[:last], strings.TrimSuffix(state, ";54 5 1 1 1 0"))
	if _, e := protocol.Run(text(lines + "; strike 60")); e != api.ErrMany {
		t.Error(e)
	}
}

// P12.7: shelf lists, and cylinders that have none.
func TestList(t *testing.T) {
	sixty := boxed(1, 12, 1) + ";" + boxed(13, 24, 2) + ";" + boxed(25, 36, 3) + ";" + boxed(37, 48, 4) + ";" + boxed(49, 60, 5)
	for i, x := range []struct {
		items, list string
		e           api.Errno
	}{
		{"", "", api.OK},
		{"11 7 3 5 90 0 x", "box 7; 1165 3 5 90 0 1", api.OK},
		{"11 7 3 5 90 0", "box 7; 1165 3 5 90 0 0", api.OK},
		{"1 2 1 1 1 0; 2 1 1 1 1 0; 3 2 1 1 1 0", "box 1; 292 1 1 1 0 0; box 2; 195 1 1 1 0 0; 389 1 1 1 0 0", api.OK},
		{"1 10 1 1 1 0; 2 9 1 1 1 0", "box 9; 292 1 1 1 0 0; box 10; 195 1 1 1 0 0", api.OK},
		{"65 1 1 1 1 0; 1099511627776 999 100000 99 400 1099511627776 x", "box 1; 6500 1 1 1 0 0; box 999; 109951162777687 100000 99 400 1099511627776 1", api.OK},
		// From may be any cylinder, also one that is not there, and the same one.
		{"5 1 1 1 1 5; 9 1 1 1 1 77", "box 1; 583 1 1 1 5 0; 971 1 1 1 77 0", api.OK},
		{boxed(1, 13, 1), "", api.ErrFull},
		{boxed(1, 12, 1) + "; 13 2 1 1 1 0; 14 1 1 1 1 0", "", api.ErrFull},
		{"1 999 1 1 1 0;" + boxed(2, 14, 4), "", api.ErrFull},
		{boxed(1, 13, 999), "", api.ErrFull},
		{sixty + "; 61 6 1 1 1 0", "", api.ErrMany},
		{sixty + "; 1 1 0 1 1 0", "", api.ErrMany},
		{boxed(1, 61, 1), "", api.ErrMany},
		{boxed(1, 60, 1), "", api.ErrFull},
		{"0 1 1 1 1 0", "", api.ErrRange},
		{"-1 1 1 1 1 0", "", api.ErrRange},
		{"1099511627777 1 1 1 1 0", "", api.ErrRange},
		{"1 0 1 1 1 0", "", api.ErrRange},
		{"1 -1 1 1 1 0", "", api.ErrRange},
		{"1 1000 1 1 1 0", "", api.ErrRange},
		{"1 9223372036854775807 1 1 1 0", "", api.ErrRange},
		{"1 -9223372036854775808 1 1 1 0", "", api.ErrRange},
		{"1 1 0 1 1 0", "", api.ErrRange},
		{"1 1 100001 1 1 0", "", api.ErrRange},
		{"1 1 1 0 1 0", "", api.ErrRange},
		{"1 1 1 100 1 0", "", api.ErrRange},
		{"1 1 1 1 0 0", "", api.ErrRange},
		{"1 1 1 1 401 0", "", api.ErrRange},
		{"1 1 1 1 1 -1", "", api.ErrRange},
		{"1 1 1 1 1 1099511627777", "", api.ErrRange},
		{"1 1 1 1 1 0; 1 2 1 1 1 0", "", api.ErrEqual},
		{"1 1 1 1 1 0; 1 1 1 1 1 0", "", api.ErrEqual},
		{"2 1 1 1 1 0; 1 1 1 1 1 0", "", api.ErrEqual},
		{"2 1 1 1 1 0; 1 2 1 1 1 0", "", api.ErrEqual},
		{"1 1 1 1 1 0; 3 1 1 1 1 0; 2 1 1 1 1 0", "", api.ErrEqual},
		// All numbers are looked at before the order, and this before how many are in a box.
		{"2 1 1 1 1 0; 1 1 1 1 1 0; 3 1 1 1 0 0", "", api.ErrRange},
		{boxed(1, 13, 1) + "; 14 0 1 1 1 0", "", api.ErrRange},
		{boxed(1, 13, 1) + "; 13 2 1 1 1 0", "", api.ErrEqual},
	} {
		l := items(x.items)
		list, e := protocol.List(l)
		if list != text(x.list) || e != x.e {
			t.Errorf("%d %q %d", i, list, e)
		}
		if again, e := protocol.ReadList(list); x.e == api.OK && (!slices.Equal(again, l) || e != api.OK) {
			t.Error(i, again, e)
		}
	}
	l := items(sixty)
	list, e := protocol.List(l)
	if again, f := protocol.ReadList(list); e != api.OK || f != api.OK || strings.Count(list, "\n") != 65 || !slices.Equal(again, l) {
		t.Error(list, e, again, f)
	}
	if list, e := protocol.List(make([]api.ProtocolItem, 100000)); list != "" || e != api.ErrMany {
		t.Error(list, e)
	}
}

// P12.7: texts that are no shelf lists.
func TestReadList(t *testing.T) {
	for _, x := range []string{
		" ", "x", "box 7", "box 7; 1165 3 5 90 0 1;", ";box 7; 1165 3 5 90 0 1", "box 7;; 1165 3 5 90 0 1", "1165 3 5 90 0 1", "1165 3 5 90 0 1; box 7",
		// Boxes in which nothing is, that come twice, or not by rising numbers.
		"box 6; box 7; 1165 3 5 90 0 1", "box 7; 1165 3 5 90 0 1; box 8", "box 7; box 7; 1165 3 5 90 0 1", "box 7; 195 1 1 1 0 0; box 7; 292 1 1 1 0 0", "box 7; 195 1 1 1 0 0; box 6; 292 1 1 1 0 0", "box 10; 195 1 1 1 0 0; box 9; 292 1 1 1 0 0",
		// Cylinders that come twice, or not by rising Numbers.
		"box 7; 292 1 1 1 0 0; 195 1 1 1 0 0", "box 7; 195 1 1 1 0 0; 195 1 1 1 0 0", "box 7; 195 1 1 1 0 0; box 8; 195 1 1 1 0 0", "box 7; 195 1 1 1 0 0; box 8; 195 2 2 2 0 1",
		// Words that are not as they are written.
		"box 07; 1165 3 5 90 0 1", "Box 7; 1165 3 5 90 0 1", "box 7 7; 1165 3 5 90 0 1", "box 0; 1165 3 5 90 0 1", "box 1000; 1165 3 5 90 0 1", "box; 1165 3 5 90 0 1", "box 7; box; 1165 3 5 90 0 1", "day 3; box 7; 1165 3 5 90 0 1", "box 7; sing 11 5 90", "box 7; 1165 3 5 90 0 1; crack 11",
		"box 7; 11 3 5 90 0 1", "box 7; 1166 3 5 90 0 1", "box 7; 01165 3 5 90 0 1", "box 7; 65 3 5 90 0 1", "box 7; 109951162777707 3 5 90 0 1", "box 7; x 3 5 90 0 1",
		"box 7; 1165 3 5 90 0", "box 7; 1165 3 5 90 0 1 1", "box 7; 1165 3 5 90 0 1 ", "box 7; 1165  3 5 90 0 1", "box 7; 1165 3 5 90 0 2", "box 7; 1165 3 5 90 0 01", "box 7; 1165 3 5 90 0 x", "box 7; 1165 3 5 90 0 ", "box 7; 1165 3 5 90 00 1", "box 7; 1165 3 5 90 -0 1", "box 7; 1165 3 5 90 -1 1", "box 7; 1165 3 5 90 1099511627777 1",
		"box 7; 1165 0 5 90 0 1", "box 7; 1165 100001 5 90 0 1", "box 7; 1165 3 0 90 0 1", "box 7; 1165 3 100 90 0 1", "box 7; 1165 3 5 0 0 1", "box 7; 1165 3 5 401 0 1", "box 7; 1165 03 5 90 0 1", "box 7; 1165 +3 5 90 0 1", "box 7; 1165 3 5 90 18446744073709551616 1",
	} {
		list := text(x)
		if x == "box 7; 1165 3 5 90 0 1 " {
			list = "box 7\n1165 3 5 90 0 1 \n"
		}
		if l, e := protocol.ReadList(list); l != nil || e != api.ErrForm {
			t.Errorf("%q %v %d", list, l, e)
		}
	}
	good := "box 7\n1165 3 5 90 0 1\n"
	for _, list := range []string{"box 7\n1165 3 5 90 0 1", "box 7\r\n1165 3 5 90 0 1\r\n", "box 7 \n1165 3 5 90 0 1\n", " box 7\n1165 3 5 90 0 1\n", good + "\n", good + " ", good + "\x00", "\n" + good, "\n", good + good} {
		if l, e := protocol.ReadList(list); l != nil || e != api.ErrForm {
			t.Errorf("%q %v %d", list, l, e)
		}
	}
}

// P12.7: too many cylinders in a shelf list, or too long a text.
func TestReadLongList(t *testing.T) {
	thirteen, sixtyOne := "box 1\n", ""
	for n := range int64(61) {
		mark, _ := protocol.Mark(n + 1)
		line := mark + " 1 1 1 0 0\n"
		if n < 13 {
			thirteen += line
		}
		sixtyOne += "box " + strconv.FormatInt(n+1, 10) + "\n" + line
	}
	for i, x := range []struct {
		list string
		e    api.Errno
	}{
		{thirteen, api.ErrForm},
		{thirteen[:strings.LastIndex(thirteen[:len(thirteen)-1], "\n")+1], api.OK},
		{sixtyOne, api.ErrForm},
		{sixtyOne[:strings.Index(sixtyOne, "box 61\n")], api.OK},
		{strings.Repeat("\n", api.MaxText), api.ErrForm},
		{strings.Repeat("\n", api.MaxText+1), api.ErrLong},
		{strings.Repeat("box 1\n", api.MaxText/6), api.ErrForm},
		{strings.Repeat("195 1 1 1 0 0\n", api.MaxText/14), api.ErrForm},
		{"box 1\n" + strings.Repeat("195 1 1 1 0 0\n", api.MaxText/14-1), api.ErrForm},
		{"box 1\n" + strings.Repeat("195 1 1 1 0 0\n", api.MaxText/14), api.ErrLong},
		{strings.Repeat("x", 1000000), api.ErrLong},
	} {
		if l, e := protocol.ReadList(x.list); e != x.e || (len(l) != 0) != (e == api.OK) {
			t.Error(i, len(l), e)
		}
	}
}
