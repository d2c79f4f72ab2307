package protocol_test

import (
	"math"
	"reflect"
	"slices"
	"strings"
	"testing"

	"mandrel/api"
	"mandrel/protocol"
)

// question is the arguments of all functions.
type question struct {
	number int64
	text   string
	depths []int64
	card   api.ProtocolCard
	items  []api.ProtocolItem
}

// results returns what all functions return.
func results(q question) []any {
	var all []any
	one := func(x any, e api.Errno) { all = append(all, x, e) }
	mark, e := protocol.Mark(q.number)
	one(mark, e)
	number, e := protocol.CheckMark(q.text)
	one(number, e)
	file, e := protocol.Encode(q.depths)
	one(file, e)
	depths, e := protocol.Decode(q.text)
	one(depths, e)
	line, e := protocol.Line(q.card)
	one(line, e)
	card, e := protocol.Parse(q.text)
	one(card, e)
	errors, e := protocol.Run(q.text)
	one(errors, e)
	state, e := protocol.State(q.text)
	one(state, e)
	fair, e := protocol.Fair(q.text)
	one(fair, e)
	list, e := protocol.List(q.items)
	one(list, e)
	read, e := protocol.ReadList(q.text)
	one(read, e)
	return all
}

// checkResults checks that all errors are those of the chapter, and that with an error all else is zero.
func checkResults(t *testing.T, all []any) {
	t.Helper()
	for i := 0; i < len(all); i += 2 {
		e := all[i+1].(api.Errno)
		if !slices.Contains([]api.Errno{0, 2, 3, 6, 7, 8, 10, 14, 15}, e) {
			t.Fatal(i, e, all)
		}
		if e != api.OK && !reflect.ValueOf(all[i]).IsZero() {
			t.Fatal(i, e, all)
		}
	}
}

// whole returns all that a list has room for.
func whole[T any](l []T) []T { return l[:cap(l)] }

// R5, R10: no argument is changed, not behind its end either, and equal calls return equal results.
func TestArguments(t *testing.T) {
	depths := []int64{5, 5, 3, 100, 77, 77}
	cylinders := items("1 2 1 1 1 0; 2 1 1 1 1 0; 3 2 1 1 1 0 x; 77 77 7 7 7 7; 78 78 7 7 7 7")
	for _, x := range []string{"", "kadMc\n", text("box 7; 1165 3 5 90 0 1"), text("day 3; box 7; sing 11 5 90; copy 12 11; copy 9 12; sing 4 4 4; crack 11; strike 4; strike 5; strike 4")} {
		q := question{123, x, depths[:4], api.ProtocolCard{Kind: 4, A: 1, B: 2}, cylinders[:3]}
		first := results(q)
		for range 20 {
			if again := results(q); !reflect.DeepEqual(first, again) {
				t.Error(first, again)
			}
		}
	}
	if !slices.Equal(depths, []int64{5, 5, 3, 100, 77, 77}) || !slices.Equal(cylinders, items("1 2 1 1 1 0; 2 1 1 1 1 0; 3 2 1 1 1 0 x; 77 77 7 7 7 7; 78 78 7 7 7 7")) {
		t.Error(depths, cylinders)
	}
}

// spoil calls twice, overwrites all that the one result has room for, and checks that neither the other one nor a third one changes.
func spoil[T comparable](t *testing.T, bad T, call func() []T) {
	t.Helper()
	other, l := call(), call()
	was := slices.Clone(l)
	l = whole(l)
	for i := range l {
		l[i] = bad
	}
	if len(was) == 0 || !slices.Equal(was, other) || !slices.Equal(was, call()) {
		t.Error(was, other)
	}
}

// R5: a result shares no memory with another one.
func TestResults(t *testing.T) {
	j := text("day 3; box 7; sing 11 5 90; copy 12 11")
	spoil(t, 77, func() []int64 { l, _ := protocol.Decode("kadMc\n"); return l })
	spoil(t, 77, func() []api.Errno { l, _ := protocol.Run(j); return l })
	spoil(t, api.ProtocolItem{Number: 77}, func() []api.ProtocolItem { l, _ := protocol.State(j); return l })
	spoil(t, api.ProtocolItem{Number: 77}, func() []api.ProtocolItem {
		l, _ := protocol.ReadList(text("box 7; 1165 3 5 90 0 1"))
		return l
	})
}

// R3: a nil list and an empty one are the same.
func TestNil(t *testing.T) {
	for _, l := range [][]api.ProtocolItem{nil, {}} {
		if list, e := protocol.List(l); list != "" || e != api.OK {
			t.Error(list, e)
		}
	}
	for _, l := range [][]int64{nil, {}} {
		if file, e := protocol.Encode(l); file != "" || e != api.OK {
			t.Error(file, e)
		}
	}
	all := results(question{})
	for i, want := range []api.Errno{api.ErrRange, api.ErrForm, 0, 0, api.ErrArg, api.ErrForm, 0, 0, 0, 0, 0} {
		if all[2*i+1] != want {
			t.Error(i, all[2*i+1])
		}
	}
}

// P1, R2, R6, R7: every call ends without a panic, whatever the arguments are.
func TestAnyNumber(t *testing.T) {
	ints := []int64{math.MinInt64, math.MinInt64 + 1, -1 << 40, -1, 0, 1, 7, 12, 60, 999, 1 << 40, 1<<40 + 1, math.MaxInt64 - 1, math.MaxInt64}
	for _, n := range ints {
		for _, m := range ints {
			for _, a := range ints {
				checkResults(t, results(question{number: n, depths: []int64{n, m, a}, card: api.ProtocolCard{Kind: int(n), A: m, B: a, C: n}, items: []api.ProtocolItem{{Number: n, Box: m, Day: a, Voice: 1, Turns: 1}}}))
				checkResults(t, results(question{number: n, depths: []int64{a, 0, m}, card: api.ProtocolCard{Kind: 3, A: n, B: m, C: a}, items: []api.ProtocolItem{{Number: 1, Box: 1, Day: 1, Voice: n, Turns: m, From: a}}}))
			}
		}
	}
}

// P1: every call ends without a panic, whatever the text is.
func TestAnyText(t *testing.T) {
	parts := []string{"", " ", "\n", "\x00", "\xff", "\u00e4", "0", "1", "60", "61", "-1", "999999999999999999999", "day 1\n", "box 1\n", "sing 1 1 1\n", "copy 2 1\n", "strike 1\n", "strike 3\n", "195 1 1 1 0 1\n", "A", "p\n", "a", "box"}
	for _, x := range parts {
		for _, y := range parts {
			for _, z := range parts {
				checkResults(t, results(question{text: x + y + z}))
				checkResults(t, results(question{text: "day 1\nbox 1\n" + x + y + z}))
			}
			checkResults(t, results(question{text: strings.Repeat(x, 59) + y}))
			checkResults(t, results(question{text: strings.Repeat(x, 20000) + y}))
		}
	}
}

// README.md tells these numbers.
func TestReadme(t *testing.T) {
	if m, e := protocol.Mark(4711); m != "471130" || e != api.OK {
		t.Error(m, e)
	}
	if n, e := protocol.CheckMark("417130"); n != 0 || e != api.ErrSum {
		t.Error(n, e)
	}
	if file, e := protocol.Encode([]int64{40, 40, 43, 250, 38}); file != "FaagBJoBKh\n" || e != api.OK {
		t.Error(file, e)
	}
	if c, e := protocol.Parse("copy 4712 4711"); c != (api.ProtocolCard{Kind: api.ProtocolCopy, A: 4712, B: 4711}) || e != api.OK {
		t.Error(c, e)
	}
	journey := "day 12\nbox 3\nsing 4711 8 120\ncopy 4712 4711\nday 13\nbox 4\nmove 4712\ncrack 4712\ncopy 4713 4712\nstrike 8\nstrike 3\n"
	if errors, e := protocol.Run(journey); names(errors) != "OK OK OK OK OK OK OK OK Worn OK Order" || e != api.OK {
		t.Error(errors, e)
	}
	l, e := protocol.State(journey)
	if !slices.Equal(l, items("4711 3 12 8 120 0; 4712 4 12 8 120 4711")) || e != api.OK {
		t.Error(l, e)
	}
	if fair, e := protocol.Fair(journey); fair != text("day 12; box 3; sing 4711 8 120; copy 4712 4711; day 13; box 4; move 4712") || e != api.OK {
		t.Error(fair, e)
	}
	if list, e := protocol.List(l); list != "box 3\n471130 12 8 120 0 0\nbox 4\n471227 12 8 120 4711 0\n" || e != api.OK {
		t.Error(list, e)
	}
}
