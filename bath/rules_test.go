package bath_test

import (
	"math"
	"reflect"
	"slices"
	"testing"

	"mandrel/api"
	"mandrel/bath"
)

// question is the arguments of all functions but the workshop.
type question struct {
	from, to []int64
	way      []int
	kind     int
	weights  []int64
	mix      api.BathMix
}

// most is what Most returns.
type most struct {
	things int64
	way    []int
}

// results returns what all functions return for a workshop and the other arguments.
func results(b api.BathSpec, q question) []any {
	all := []any{bath.CheckBath(b), bath.CheckWeights(b, q.weights), bath.CheckMix(b, q.from, q.to, q.mix)}
	one := func(x any, e api.Errno) { all = append(all, x, e) }
	after, e := bath.Make(b, q.from, q.way)
	one(after, e)
	way, e := bath.Reach(b, q.from, q.to)
	one(way, e)
	stocks, e := bath.Stocks(b, q.from)
	one(stocks, e)
	things, way, e := bath.Most(b, q.from, q.kind)
	one(most{things, way}, e)
	way, e = bath.Stuck(b, q.from)
	one(way, e)
	weights, e := bath.Weights(b, q.from, q.to)
	one(weights, e)
	x, e := bath.Mix(b, q.from, q.to)
	one(x, e)
	return all
}

// whole returns all that a list has room for.
func whole[T any](l []T) []T { return l[:cap(l)] }

// roomy returns a list with numbers behind its end.
func roomy(l []int64) []int64 { return append(slices.Clone(l), 77, 77)[:len(l)] }

// roomyBath returns a workshop whose lists have numbers, or moves, behind their ends.
func roomyBath(b api.BathSpec) api.BathSpec {
	moves := append(slices.Clone(b.Moves), api.BathMove{Take: longs("77")}, api.BathMove{})
	for i, m := range b.Moves {
		moves[i] = api.BathMove{Take: roomy(m.Take), Give: roomy(m.Give)}
	}
	return api.BathSpec{Caps: roomy(b.Caps), Moves: moves[:len(b.Moves)]}
}

// copied returns all that the lists of a workshop have room for, in new memory.
func copied(b api.BathSpec) []any {
	all := []any{slices.Clone(whole(b.Caps))}
	for _, m := range whole(b.Moves) {
		all = append(all, slices.Clone(whole(m.Take)), slices.Clone(whole(m.Give)))
	}
	return all
}

// questions returns for some workshops arguments with which most functions find something.
func questions() (shops []api.BathSpec, asked []question) {
	add := func(b api.BathSpec, from, to, way, weights string, x api.BathMix) {
		shops = append(shops, b)
		asked = append(asked, question{longs(from), longs(to), numbers(way), 0, longs(weights), x})
	}
	add(chapter(), "5 0 0", "0 1 3", "0 1 1 2", "1 2 1", mix("1 3 0", 1))
	add(chapter(), "6 3 5", "6 3 6", "1", "1 1 1", mix("1 3 0", 1))
	add(full(), "9 9 4 3 1", "5 5 4 3 1", "0", "0 0 0 0 0", mix("0 0 0 0 0 0 0 0", 1))
	add(counter(), "4 5 5 5 0", "5 5 5 5 1", "0 1", "0 0 0 0 0", mix("1 0 0 0 0", 1))
	add(shop("9 9", "3 0>0 2"), "9 0", "3 4", "0 0 0", "2 3", mix("2", 1))
	return shops, asked
}

// R5, R10: no argument is changed, not behind its end either, and equal calls return equal results.
func TestArguments(t *testing.T) {
	shops, asked := questions()
	for i, b := range shops {
		b, q := roomyBath(b), asked[i]
		q.from, q.to, q.weights, q.mix.Times = roomy(q.from), roomy(q.to), roomy(q.weights), roomy(q.mix.Times)
		q.way = append(slices.Clone(q.way), 77, 77)[:len(q.way)]
		all := func() []any {
			lists := []any{slices.Clone(whole(q.way))}
			for _, l := range [][]int64{q.from, q.to, q.weights, q.mix.Times} {
				lists = append(lists, slices.Clone(whole(l)))
			}
			return append(lists, copied(b)...)
		}
		was := all()
		first := results(b, q)
		for range 5 {
			if again := results(b, q); !reflect.DeepEqual(first, again) {
				t.Error(i, first, again)
			}
		}
		if is := all(); !reflect.DeepEqual(is, was) {
			t.Error(i, is, was)
		}
	}
}

// spoil calls twice, overwrites all that the one result has room for, and checks that neither the other one nor a third one changes.
func spoil[T comparable](t *testing.T, bad T, call func() []T) {
	t.Helper()
	other, l := call(), call()
	was := slices.Clone(l)
	l = whole(l)
	for i := range l {
		l[i] = bad
	}
	if len(was) == 0 || !slices.Equal(was, other) || !slices.Equal(was, call()) {
		t.Error(was, other)
	}
}

// R5: a result shares no memory with an argument or another result.
func TestResults(t *testing.T) {
	b, from, to, last := chapter(), longs("5 0 0"), longs("0 1 3"), longs("6 3 5")
	spoil(t, 77, func() []int64 { l, _ := bath.Make(b, from, numbers("0 1")); return l })
	spoil(t, 77, func() []int64 { l, _ := bath.Make(b, from, nil); return l })
	spoil(t, 77, func() []int { l, _ := bath.Reach(b, from, to); return l })
	spoil(t, 77, func() []int { _, l, _ := bath.Most(b, from, 2); return l })
	spoil(t, 77, func() []int { l, _ := bath.Stuck(b, last); return l })
	spoil(t, 77, func() []int64 { l, _ := bath.Weights(b, from, last); return l })
	spoil(t, 77, func() []int64 { x, _ := bath.Mix(b, from, to); return x.Times })
	if !reflect.DeepEqual(b, chapter()) || !slices.Equal(from, longs("5 0 0")) || !slices.Equal(to, longs("0 1 3")) || !slices.Equal(last, longs("6 3 5")) {
		t.Error(b, from, to, last)
	}
}

// R3: a nil list and an empty one are the same.
func TestNil(t *testing.T) {
	for _, x := range []struct {
		b, filled api.BathSpec
	}{
		{api.BathSpec{}, api.BathSpec{Caps: []int64{}, Moves: []api.BathMove{}}},
		{api.BathSpec{Caps: longs("3")}, api.BathSpec{Caps: longs("3"), Moves: []api.BathMove{}}},
		{api.BathSpec{Caps: longs("3"), Moves: make([]api.BathMove, 1)}, api.BathSpec{Caps: longs("3"), Moves: []api.BathMove{{Take: []int64{}, Give: []int64{}}}}},
		{chapter(), chapter()},
	} {
		for _, den := range []int64{0, 1} {
			a := results(x.b, question{mix: api.BathMix{Den: den}})
			empty := question{from: []int64{}, to: []int64{}, way: []int{}, weights: []int64{}, mix: api.BathMix{Times: []int64{}, Den: den}}
			if b := results(x.filled, empty); !reflect.DeepEqual(a, b) {
				t.Error(a, b)
			}
			q := question{from: longs("3 2 1")[:max(1, len(x.b.Caps))], mix: api.BathMix{Den: den}}
			q.to = q.from
			empty.from, empty.to = q.from, q.from
			c := results(x.b, q)
			if d := results(x.filled, empty); !reflect.DeepEqual(c, d) {
				t.Error(c, d)
			}
		}
	}
}

// P1, R6, R2: every call ends without a panic, with an error of the chapter or none, whatever the numbers are, and with an error all else is zero.
func TestAnyNumber(t *testing.T) {
	ints := []int64{math.MinInt64, -1048577, -1, 0, 1, 3, 9, 10, 1048577, math.MaxInt64}
	for _, n := range ints {
		for _, m := range ints {
			for _, a := range ints {
				some := []int64{n, m}
				q := question{some, []int64{m, a}, []int{int(n), int(a)}, int(m), []int64{a, n}, api.BathMix{Times: some, Den: a}}
				move := api.BathMove{Take: some, Give: []int64{a, n}}
				for _, b := range []api.BathSpec{
					{Caps: []int64{n, m}, Moves: []api.BathMove{{Take: longs("1 0"), Give: longs("0 1")}}},
					{Caps: longs("9 9"), Moves: []api.BathMove{move, {Take: longs("1 0"), Give: longs("0 1")}}},
					shop("9 9", "1 0>0 1, 0 2>3 0"),
				} {
					checkResults(t, results(b, q))
					q.way = []int{0, 1, int(n)}
					checkResults(t, results(b, q))
					q.from, q.to = longs("3 4"), longs("2 5")
					checkResults(t, results(b, q))
				}
			}
		}
	}
	long := make([]int64, 100000)
	q := question{long, long, make([]int, 100000), 0, long, api.BathMix{Times: long, Den: 1}}
	shops, asked := questions()
	for i, b := range append(shops, api.BathSpec{Caps: long}, api.BathSpec{Caps: longs("1"), Moves: make([]api.BathMove, 100000)}, api.BathSpec{Caps: longs("1"), Moves: []api.BathMove{{Take: long, Give: long}}}) {
		checkResults(t, results(b, q))
		p := asked[i%len(asked)]
		checkResults(t, results(b, p))
		p.way, p.weights, p.mix.Times = q.way[:api.MaxLong], long, long
		checkResults(t, results(b, p))
	}
}

// checkResults checks that all results are as they may be: an error of the chapter, and zero values in front of it.
func checkResults(t *testing.T, all []any) {
	t.Helper()
	for i, x := range all {
		e, ok := x.(api.Errno)
		if !ok {
			continue
		}
		if !slices.Contains([]api.Errno{0, 2, 3, 5, 6, 9, 13, 14, 15}, e) {
			t.Fatal(i, e, all)
		}
		if i > 2 && e != api.OK && !reflect.ValueOf(all[i-1]).IsZero() {
			t.Fatal(i, e, all)
		}
	}
}

// README.md tells these numbers.
func TestReadme(t *testing.T) {
	b, start := shop("6 2 5 6", "2 0 0 0>0 1 0 0, 1 1 0 0>0 1 1 0, 0 1 0 0>0 0 0 3, 0 0 0 3>2 0 0 0, 0 0 2 0>0 0 0 3"), longs("6 0 0 0")
	if l, e := bath.Make(b, start, numbers("0 1 1 2")); !slices.Equal(l, longs("2 0 2 3")) || e != api.OK {
		t.Error(l, e)
	}
	if way, e := bath.Reach(b, start, longs("4 0 2 0")); !slices.Equal(way, numbers("0 1 1 2 3")) || e != api.OK {
		t.Error(way, e)
	}
	if n := stocksOf(t, b, start); n != 26 {
		t.Error(n)
	}
	if casts, way, e := bath.Most(b, start, 2); casts != 4 || !slices.Equal(way, numbers("0 1 1 1 1")) || e != api.OK {
		t.Error(casts, way, e)
	}
	if n := stuckOf(t, b, start); n != -1 {
		t.Error(n)
	}
	if w, e := bath.Weights(b, start, longs("0 0 5 0")); !slices.Equal(w, longs("3 6 3 2")) || e != api.OK {
		t.Error(w, e)
	}
	if x, e := bath.Mix(b, start, longs("1 0 5 0")); !slices.Equal(x.Times, longs("0 5 0 0 0")) || x.Den != 1 || e != api.OK {
		t.Error(x, e)
	}
	if n := reachOf(t, b, start, longs("1 0 5 0")); n != -1 {
		t.Error(n)
	}
}
