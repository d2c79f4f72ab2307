package join_test

import (
	"math/rand/v2"
	"slices"
	"testing"

	"mandrel/api"
	"mandrel/join"
)

// random returns a cylinder with up to so many pieces, whose depths and places are few, so that it has joins more often than not.
func random(r *rand.Rand, most int) api.JoinCylinder {
	end := func() api.JoinEnd {
		lo := r.Int64N(4)
		return api.JoinEnd{Depth: rg(lo, lo+r.Int64N(2)), Place: r.Int64N(3)}
	}
	c := api.JoinCylinder{Off: r.Int64N(2), Step: rg(-r.Int64N(3), r.Int64N(3))}
	if r.IntN(8) == 0 {
		c.Step = rg(1, 1)
	}
	for range 1 + r.IntN(most) {
		c.Pieces = append(c.Pieces, api.JoinPiece{Ends: [2]api.JoinEnd{end(), end()}, Loose: r.IntN(3) == 0})
	}
	return c
}

// every returns all steps of a cylinder, in order.
func every(c api.JoinCylinder) []api.JoinStep {
	var l []api.JoinStep
	for i, p := range c.Pieces {
		l = append(l, api.JoinStep{Piece: i})
		if p.Loose {
			l = append(l, api.JoinStep{Piece: i, Turned: true})
		}
	}
	return l
}

// fit tries all numbers in both depths.
func fit(c api.JoinCylinder, from, to api.JoinStep) bool {
	end, begin := c.Pieces[from.Piece].Ends[1], c.Pieces[to.Piece].Ends[0]
	if from.Turned {
		end = c.Pieces[from.Piece].Ends[0]
	}
	if to.Turned {
		begin = c.Pieces[to.Piece].Ends[1]
	}
	near := false
	for a := end.Depth.Lo; a <= end.Depth.Hi; a++ {
		for b := begin.Depth.Lo; b <= begin.Depth.Hi; b++ {
			near = near || a-b <= c.Off && b-a <= c.Off
		}
	}
	gap := begin.Place - end.Place
	return near && from.Piece != to.Piece && gap >= c.Step.Lo && gap <= c.Step.Hi
}

// isJoin tells whether steps of a cylinder are a join.
func isJoin(c api.JoinCylinder, l []api.JoinStep) bool {
	if len(l) != len(c.Pieces) {
		return false
	}
	var pieces []int
	for i, s := range l {
		if slices.Contains(pieces, s.Piece) || i > 0 && !fit(c, l[i-1], s) {
			return false
		}
		pieces = append(pieces, s.Piece)
	}
	return true
}

// all returns all joins, by trying each step behind all that is a join so far; in order.
func all(c api.JoinCylinder) [][]api.JoinStep {
	lists := [][]api.JoinStep{nil}
	for i := range c.Pieces {
		var longer [][]api.JoinStep
		for _, l := range lists {
			for _, s := range every(c) {
				used := slices.ContainsFunc(l, func(x api.JoinStep) bool { return x.Piece == s.Piece })
				if !used && (i == 0 || fit(c, l[i-1], s)) {
					longer = append(longer, append(slices.Clone(l), s))
				}
			}
		}
		lists = longer
	}
	return lists
}

// has tells whether a join has a pair.
func has(l []api.JoinStep, from, to api.JoinStep) bool {
	for i := 1; i < len(l); i++ {
		if l[i-1] == from && l[i] == to {
			return true
		}
	}
	return false
}

// compare compares two lists of steps as the chapter orders them.
func compare(a, b []api.JoinStep) int {
	return slices.CompareFunc(a, b, func(x, y api.JoinStep) int {
		switch {
		case x.Piece != y.Piece:
			return x.Piece - y.Piece
		case x.Turned == y.Turned:
			return 0
		case y.Turned:
			return -1
		}
		return 1
	})
}

// P2.4 to P2.7, P2.10: numbers and joins, against all joins.
func TestNumbers(t *testing.T) {
	r := rand.New(rand.NewPCG(2, 1))
	seen := map[int]int{}
	for range 3000 {
		c := random(r, 5)
		want := all(c)
		seen[min(len(want), 2)]++
		if n, e := join.Count(c); n != int64(len(want)) || e != api.OK {
			t.Fatal(c, n, e, len(want))
		}
		var before []api.JoinStep
		for i, l := range want {
			got, e := join.Nth(c, int64(i))
			if !slices.Equal(got, l) || e != api.OK {
				t.Fatal(c, i, got, e, l)
			}
			if n, e := join.Rank(c, l); n != int64(i) || e != api.OK {
				t.Fatal(c, l, n, e, i)
			}
			if e := join.CheckJoin(c, l); e != api.OK {
				t.Fatal(c, l, e)
			}
			if i > 0 && compare(before, got) >= 0 {
				t.Fatal(c, i, before, got)
			}
			before = got
		}
		if l, e := join.Nth(c, int64(len(want))); l != nil || e != api.ErrRange {
			t.Fatal(c, l, e)
		}
		l, e := join.Only(c)
		switch len(want) {
		case 0:
			if len(l) != 0 || e != api.ErrNone {
				t.Fatal(c, l, e)
			}
		case 1:
			if !slices.Equal(l, want[0]) || e != api.OK {
				t.Fatal(c, l, e)
			}
		default:
			if len(l) != 0 || e != api.ErrMany {
				t.Fatal(c, l, e)
			}
		}
	}
	if seen[0] < 300 || seen[1] < 100 || seen[2] < 300 {
		t.Error(seen)
	}
}

// P2.2, P2.3: any lists of as many steps as there are pieces, and the error that comes first.
func TestLists(t *testing.T) {
	r := rand.New(rand.NewPCG(2, 2))
	seen := map[api.Errno]int{}
	for range 30000 {
		c := random(r, 4)
		var l []api.JoinStep
		for range len(c.Pieces) + r.IntN(20)/19 - r.IntN(20)/19 {
			l = append(l, api.JoinStep{Piece: r.IntN(len(c.Pieces)+1) - r.IntN(12)/11, Turned: r.IntN(5) == 0})
		}
		strange := func(s api.JoinStep) bool { return !slices.Contains(every(c), s) }
		twice := func(s api.JoinStep) bool {
			n := 0
			for _, x := range l {
				if x.Piece == s.Piece {
					n++
				}
			}
			return n > 1
		}
		want := api.ErrCrack
		switch {
		case len(l) != len(c.Pieces):
			want = api.ErrEqual
		case slices.ContainsFunc(l, strange):
			want = api.ErrArg
		case slices.ContainsFunc(l, twice):
			want = api.ErrHave
		case isJoin(c, l):
			want = api.OK
		}
		seen[want]++
		if e := join.CheckJoin(c, l); e != want {
			t.Fatal(c, l, e, want)
		}
		if n, e := join.Rank(c, l); e != want || e != api.OK && n != 0 {
			t.Fatal(c, l, n, e, want)
		}
		if len(l) < 2 {
			continue
		}
		fits, e := join.Fits(c, l[0], l[1])
		if strange(l[0]) || strange(l[1]) {
			if fits || e != api.ErrArg {
				t.Fatal(c, l, fits, e)
			}
		} else if fits != fit(c, l[0], l[1]) || e != api.OK {
			t.Fatal(c, l, fits, e)
		}
	}
	if len(seen) != 5 {
		t.Error(seen)
	}
}

// P2.8, P2.9, P2.11: passages and rivals, against all joins.
func TestShared(t *testing.T) {
	r := rand.New(rand.NewPCG(2, 3))
	shared := 0
	for range 2000 {
		c := random(r, 5)
		joins := all(c)
		var want []api.JoinPair
		for _, from := range every(c) {
			var rivals []api.JoinStep
			e := api.ErrNone
			if slices.ContainsFunc(joins, func(l []api.JoinStep) bool { return slices.Contains(l, from) }) {
				e = api.OK
			}
			for _, to := range every(c) {
				n := 0
				for _, l := range joins {
					if has(l, from, to) {
						n++
					}
				}
				if n > 0 {
					rivals = append(rivals, to)
				}
				if n > 0 && n == len(joins) {
					want = append(want, api.JoinPair{From: from, To: to})
				}
			}
			if got, f := join.Rivals(c, from); !slices.Equal(got, rivals) || f != e {
				t.Fatal(c, from, got, f, rivals, e)
			}
		}
		got, e := join.Passages(c)
		if len(joins) == 0 && e != api.ErrNone || len(joins) > 0 && e != api.OK || !slices.Equal(got, want) {
			t.Fatal(c, got, e, want)
		}
		if len(joins) > 1 {
			shared += len(want)
		}
	}
	if shared < 100 {
		t.Error(shared)
	}
}

// P2.12: no join is lost with a greater Off, a wider Step, a wider Depth, or one more piece that is loose.
func TestWider(t *testing.T) {
	r := rand.New(rand.NewPCG(2, 4))
	more := 0
	for range 1500 {
		c := random(r, 5)
		joins := all(c)
		wide := c
		wide.Pieces = slices.Clone(c.Pieces)
		p := &wide.Pieces[r.IntN(len(wide.Pieces))]
		switch r.IntN(4) {
		case 0:
			wide.Off++
		case 1:
			wide.Step = rg(c.Step.Lo-r.Int64N(2), c.Step.Hi+r.Int64N(2))
		case 2:
			d := &p.Ends[r.IntN(2)].Depth
			*d = rg(max(0, d.Lo-r.Int64N(2)), d.Hi+r.Int64N(2))
		case 3:
			p.Loose = true
		}
		for _, l := range joins {
			if e := join.CheckJoin(wide, l); e != api.OK {
				t.Fatal(c, wide, l, e)
			}
		}
		n, e := join.Count(wide)
		if n < int64(len(joins)) || e != api.OK {
			t.Fatal(c, wide, n, e)
		}
		if n > int64(len(joins)) {
			more++
		}
	}
	if more < 100 {
		t.Error(more)
	}
}

// P2.13: with both ends of all pieces exchanged, and Step from -Hi to -Lo, joins go from the last step to the first one.
func TestReversed(t *testing.T) {
	r := rand.New(rand.NewPCG(2, 5))
	for range 1500 {
		c := random(r, 5)
		back := api.JoinCylinder{Off: c.Off, Step: rg(-c.Step.Hi, -c.Step.Lo)}
		for _, p := range c.Pieces {
			p.Ends[0], p.Ends[1] = p.Ends[1], p.Ends[0]
			back.Pieces = append(back.Pieces, p)
		}
		joins := all(c)
		for _, l := range joins {
			slices.Reverse(l)
		}
		slices.SortFunc(joins, compare)
		if n, e := join.Count(back); n != int64(len(joins)) || e != api.OK {
			t.Fatal(c, n, e)
		}
		for i, l := range joins {
			if got, e := join.Nth(back, int64(i)); !slices.Equal(got, l) || e != api.OK {
				t.Fatal(c, i, got, e, l)
			}
		}
	}
}

// P2.14: pieces with other numbers, and places with a number added to all, have as many joins.
func TestRenamed(t *testing.T) {
	r := rand.New(rand.NewPCG(2, 6))
	for range 1500 {
		c := random(r, 6)
		other := c
		other.Pieces = slices.Clone(c.Pieces)
		r.Shuffle(len(other.Pieces), func(i, j int) { other.Pieces[i], other.Pieces[j] = other.Pieces[j], other.Pieces[i] })
		n, e := join.Count(c)
		m, f := join.Count(other)
		if n != m || e != api.OK || f != api.OK {
			t.Fatal(c, n, e, m, f)
		}
		by := r.Int64N(api.MaxJoinPlace - 2)
		for i := range other.Pieces {
			other.Pieces[i].Ends[0].Place += by
			other.Pieces[i].Ends[1].Place += by
		}
		if m, f := join.Count(other); n != m || f != api.OK {
			t.Fatal(c, by, n, m, f)
		}
	}
}

// P2.10 at the limit: random joins of 8 pieces, too many to be listed, by their numbers.
func TestNumbersOfMany(t *testing.T) {
	r := rand.New(rand.NewPCG(2, 7))
	for range 100 {
		c := random(r, 1)
		for len(c.Pieces) < api.MaxJoinPieces {
			c.Pieces = append(c.Pieces, random(r, 1).Pieces...)
		}
		n, e := join.Count(c)
		if e != api.OK {
			t.Fatal(c, e)
		}
		for range min(n, 20) {
			i := r.Int64N(n)
			l, e := join.Nth(c, i)
			if !isJoin(c, l) || e != api.OK {
				t.Fatal(c, i, l, e)
			}
			if j, e := join.Rank(c, l); j != i || e != api.OK {
				t.Fatal(c, i, l, j, e)
			}
			if i == 0 {
				continue
			}
			if before, e := join.Nth(c, i-1); compare(before, l) >= 0 || e != api.OK {
				t.Fatal(c, i, before, l, e)
			}
		}
	}
}
