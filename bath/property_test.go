package bath_test

import (
	"math/rand/v2"
	"slices"
	"testing"

	"mandrel/api"
	"mandrel/bath"
)

// sizes is how large a random workshop can be: kinds, caps, moves, and things that a move takes or gives.
type sizes struct {
	kinds, cap, moves, things int64
}

var (
	tiny  = sizes{2, 2, 3, 2}
	few   = sizes{3, 3, 3, 2}
	large = sizes{api.MaxBathKinds, api.MaxBathCap, api.MaxBathMoves, 2}
	wide  = sizes{api.MaxBathKinds, api.MaxBathCap, api.MaxBathMoves, api.MaxBathThings}
)

// places is a stock that can be the key of a map.
type places [api.MaxBathKinds]int64

// placed returns a stock of a list.
func placed(l []int64) places {
	var p places
	copy(p[:], l)
	return p
}

// drawn returns random numbers, one for each cap, most of them 0 if they are rare.
func drawn(r *rand.Rand, kinds int, most int64, rare bool) []int64 {
	l := make([]int64, kinds)
	for i := range l {
		if !rare || r.IntN(5) < 2 {
			l[i] = r.Int64N(most + 1)
		}
	}
	return l
}

// random returns a random workshop. Half of them have weights that no move changes.
func random(r *rand.Rand, of sizes) api.BathSpec {
	kinds := 1 + r.IntN(int(of.kinds))
	caps := drawn(r, kinds, of.cap, false)
	for stocksIn(caps) > api.MaxBathStocks {
		caps[r.IntN(kinds)] = r.Int64N(of.cap + 1)
	}
	b := api.BathSpec{Caps: caps}
	weights := make([]int64, kinds)
	if r.IntN(2) == 0 {
		weights = drawn(r, kinds, 3, false)
	}
	for range r.Int64N(of.moves + 1) {
		b.Moves = append(b.Moves, someMove(r, of, weights))
	}
	return b
}

// dense returns a random workshop of five kinds in which moves take or give many things of each kind.
func dense(r *rand.Rand) api.BathSpec {
	b := api.BathSpec{Caps: longs("4 4 4 4 4")}
	b.Caps[r.IntN(5)]++
	for range 4 + r.IntN(3) {
		m := api.BathMove{Take: make([]int64, 5), Give: make([]int64, 5)}
		for kind := range m.Take {
			l := m.Take
			if r.IntN(2) == 0 {
				l = m.Give
			}
			l[kind] = 3 + r.Int64N(3)
		}
		b.Moves = append(b.Moves, m)
	}
	return b
}

// stocksIn returns how many stocks there are.
func stocksIn(caps []int64) int64 {
	n := int64(1)
	for _, most := range caps {
		n *= most + 1
	}
	return n
}

// someMove returns a random move that does not change weights.
func someMove(r *rand.Rand, of sizes, weights []int64) api.BathMove {
	rare := r.IntN(4) > 0
	for {
		m := api.BathMove{Take: drawn(r, len(weights), of.things, rare), Give: drawn(r, len(weights), of.things, rare)}
		if sum(weights, m.Take) == sum(weights, m.Give) {
			return m
		}
	}
}

// someStock returns a random stock.
func someStock(r *rand.Rand, b api.BathSpec) []int64 {
	l := make([]int64, len(b.Caps))
	for i, most := range b.Caps {
		l[i] = r.Int64N(most + 1)
	}
	return l
}

// allStocks returns all stocks of a workshop.
func allStocks(b api.BathSpec) [][]int64 {
	all := [][]int64{nil}
	for _, most := range b.Caps {
		var next [][]int64
		for _, l := range all {
			for n := range most + 1 {
				next = append(next, append(slices.Clone(l), n))
			}
		}
		all = next
	}
	return all
}

// afterMove returns the stock after a move, nil if it cannot be made, as the chapter defines it.
func afterMove(b api.BathSpec, s []int64, m api.BathMove) []int64 {
	next := make([]int64, len(s))
	for kind, n := range s {
		next[kind] = n - m.Take[kind] + m.Give[kind]
		if n < m.Take[kind] || next[kind] > b.Caps[kind] {
			return nil
		}
	}
	return next
}

// afterWay returns the stock after a way, nil if it is none.
func afterWay(b api.BathSpec, s []int64, way []int) []int64 {
	for _, move := range way {
		if s = afterMove(b, s, b.Moves[move]); s == nil {
			return nil
		}
	}
	return s
}

// waysOf returns all lists of up to so many moves.
func waysOf(moves, count int) [][]int {
	all := [][]int{nil}
	for at := 0; at < len(all) && len(all[at]) < count; at++ {
		for move := range moves {
			all = append(all, append(slices.Clone(all[at]), move))
		}
	}
	return all
}

// tried returns the fewest moves to each stock that can be reached, of all ways without a stock twice.
func tried(b api.BathSpec, from []int64) map[places]int {
	fewest := map[places]int{}
	for _, way := range waysOf(len(b.Moves), int(stocksIn(b.Caps))-1) {
		s := afterWay(b, from, way)
		if s == nil {
			continue
		}
		if n, ok := fewest[placed(s)]; !ok || len(way) < n {
			fewest[placed(s)] = len(way)
		}
	}
	return fewest
}

// spread returns the fewest moves to each stock that can be reached: in each round all stocks that were reached in the last one are looked at.
func spread(b api.BathSpec, from []int64) map[places]int {
	fewest := map[places]int{placed(from): 0}
	last := [][]int64{from}
	for round := 1; len(last) > 0; round++ {
		var next [][]int64
		for _, s := range last {
			for _, m := range b.Moves {
				to := afterMove(b, s, m)
				if to == nil {
					continue
				}
				if _, ok := fewest[placed(to)]; !ok {
					fewest[placed(to)] = round
					next = append(next, to)
				}
			}
		}
		last = next
	}
	return fewest
}

// fewestTo returns the fewest moves to a stock, -1 if it cannot be reached.
func fewestTo(fewest map[places]int, to []int64) int {
	if n, ok := fewest[placed(to)]; ok {
		return n
	}
	return -1
}

// bathError tells what is wrong with a workshop, as the chapter defines it.
func bathError(b api.BathSpec) api.Errno {
	if len(b.Caps) < 1 || len(b.Caps) > 5 || len(b.Moves) > 8 {
		return api.ErrMany
	}
	for _, most := range b.Caps {
		if most < 0 || most > 9 {
			return api.ErrArg
		}
	}
	if stocksIn(b.Caps) > 4096 {
		return api.ErrMany
	}
	e := api.OK
	for _, m := range b.Moves {
		for _, l := range [][]int64{m.Take, m.Give} {
			if len(l) != len(b.Caps) {
				return api.ErrEqual
			}
			for _, n := range l {
				if n < 0 || n > 5 {
					e = api.ErrArg
				}
			}
		}
	}
	return e
}

// spoilBath changes a number, or a list, of a workshop.
func spoilBath(r *rand.Rand, b *api.BathSpec) {
	b.Moves = slices.Clone(b.Moves)
	switch at := r.IntN(6); {
	case at == 0:
		b.Caps = append(b.Caps, r.Int64N(4))
	case at == 1 && len(b.Caps) > 0:
		b.Caps[r.IntN(len(b.Caps))] += r.Int64N(9) - 4
	case at == 2:
		b.Moves = append(b.Moves, slices.Repeat(b.Moves, 1+r.IntN(2))...)
	case at > 2 && len(b.Moves) > 0:
		m := &b.Moves[r.IntN(len(b.Moves))]
		l := &m.Take
		if r.IntN(2) == 0 {
			l = &m.Give
		}
		switch {
		case at > 3 && len(*l) > 0:
			*l = slices.Clone(*l)
			(*l)[r.IntN(len(*l))] += r.Int64N(11) - 5
		case r.IntN(2) == 0:
			*l = append(slices.Clone(*l), 9)
		case len(*l) > 0:
			*l = (*l)[1:]
		}
	}
}

// P11.1: random workshops, some of which are spoilt.
func TestBaths(t *testing.T) {
	r := rand.New(rand.NewPCG(11, 1))
	seen := map[api.Errno]int{}
	for range 30000 {
		b := random(r, []sizes{tiny, few, large, wide}[r.IntN(4)])
		for range r.IntN(4) {
			spoilBath(r, &b)
		}
		want := bathError(b)
		seen[want]++
		if e := bath.CheckBath(b); e != want {
			t.Fatal(b, e, want)
		}
	}
	if len(seen) != 4 || min(seen[api.OK], seen[api.ErrMany], seen[api.ErrArg], seen[api.ErrEqual]) < 1000 {
		t.Error(seen)
	}
}

// P11.2: random lists of moves, and those of short workshops all of them.
func TestMakes(t *testing.T) {
	r := rand.New(rand.NewPCG(11, 2))
	ways := 0
	for range 20000 {
		b := random(r, []sizes{tiny, few, large, wide}[r.IntN(4)])
		from := someStock(r, b)
		var way []int
		for range r.IntN(6) {
			if len(b.Moves) > 0 {
				way = append(way, r.IntN(len(b.Moves)))
			}
		}
		want := afterWay(b, from, way)
		l, e := bath.Make(b, from, way)
		if !slices.Equal(l, want) || (e == api.OK) != (want != nil) || e != api.OK && e != api.ErrState {
			t.Fatal(b, from, way, l, e)
		}
		if e == api.OK && len(way) > 1 {
			ways++
		}
	}
	if ways < 2000 {
		t.Error(ways)
	}
}

// P11.3, P11.4: tiny workshops, against all ways tried out.
func TestTiny(t *testing.T) {
	r := rand.New(rand.NewPCG(11, 3))
	reached, longest := 0, 0
	for range 3000 {
		b := random(r, tiny)
		if stocksIn(b.Caps) > 7 {
			continue
		}
		from := someStock(r, b)
		fewest := tried(b, from)
		for _, to := range allStocks(b) {
			n := reachOf(t, b, from, to)
			if n != fewestTo(fewest, to) {
				t.Fatal(b, from, to, n)
			}
			longest = max(longest, n)
		}
		reached += len(fewest)
		checkFound(t, b, from, fewest)
	}
	if reached < 3000 || longest < 4 {
		t.Error(reached, longest)
	}
}

// checkFound checks Stocks, Most and Stuck against the fewest moves to all stocks that can be reached.
func checkFound(t *testing.T, b api.BathSpec, from []int64, fewest map[places]int) {
	t.Helper()
	if n := stocksOf(t, b, from); n != len(fewest) {
		t.Fatal(b, from, n, len(fewest))
	}
	stuck := -1
	most, moves := slices.Clone(from), make([]int, len(from))
	for s, n := range fewest {
		for kind := range b.Caps {
			if s[kind] > most[kind] || s[kind] == most[kind] && n < moves[kind] {
				most[kind], moves[kind] = s[kind], n
			}
		}
		can := func(m api.BathMove) bool { return afterMove(b, s[:len(from)], m) != nil }
		if !slices.ContainsFunc(b.Moves, can) && (stuck < 0 || n < stuck) {
			stuck = n
		}
	}
	for kind := range b.Caps {
		if m, n := mostOf(t, b, from, kind); m != most[kind] || n != moves[kind] {
			t.Fatal(b, from, kind, m, n)
		}
	}
	if n := stuckOf(t, b, from); n != stuck {
		t.Fatal(b, from, n, stuck)
	}
}

// P11.3, P11.4: workshops of all sizes, against rounds over all stocks.
func TestSpread(t *testing.T) {
	r := rand.New(rand.NewPCG(11, 4))
	seen := map[bool]int{}
	stuck, greatest, longest := 0, 0, 0
	for range 2500 {
		b := random(r, []sizes{few, large, large, wide}[r.IntN(4)])
		from := someStock(r, b)
		fewest := spread(b, from)
		checkFound(t, b, from, fewest)
		for range 3 {
			to := someStock(r, b)
			n := reachOf(t, b, from, to)
			if n != fewestTo(fewest, to) {
				t.Fatal(b, from, to, n)
			}
			seen[n > 0]++
			longest = max(longest, n)
		}
		if n := stuckOf(t, b, from); n > 0 {
			stuck++
		}
		greatest = max(greatest, len(fewest))
	}
	if min(seen[true], seen[false]) < 500 || stuck < 200 || greatest < 1000 || longest < 10 {
		t.Error(seen, stuck, greatest, longest)
	}
}

// P11.5, P11.6, P11.8: tiny workshops, against all weights and all mixtures of small numbers tried out.
// With changes of at most 2, of at most two kinds, the weights need amounts of at most 2, and mixtures a Den of at most 8 and numbers of at most 8.
func TestPartedTiny(t *testing.T) {
	r := rand.New(rand.NewPCG(11, 5))
	seen := map[bool]int{}
	for range 3000 {
		b := random(r, sizes{2, 2, 2, 2})
		from, to := someStock(r, b), someStock(r, b)
		parted := slices.ContainsFunc(amounts(len(b.Caps), 2), func(w []int64) bool {
			return keeps(b, w) && sum(w, from) != sum(w, to)
		})
		mixed := false
		for den := int64(1); den <= 8 && !mixed; den++ {
			mixed = slices.ContainsFunc(amounts(len(b.Moves), 8), func(times []int64) bool {
				return gives(b, from, to, api.BathMix{Times: times, Den: den})
			})
		}
		if parted == mixed || partedOf(t, b, from, to) != parted {
			t.Fatal(b, from, to, parted, mixed)
		}
		if !slices.Equal(from, to) {
			seen[parted]++
		}
	}
	if min(seen[true], seen[false]) < 200 {
		t.Error(seen)
	}
}

// amounts returns all lists of so many numbers whose amounts are at most a number.
func amounts(count int, most int64) [][]int64 {
	all := [][]int64{nil}
	for range count {
		var next [][]int64
		for _, l := range all {
			for n := -most; n <= most; n++ {
				next = append(next, append(slices.Clone(l), n))
			}
		}
		all = next
	}
	return all
}

// P11.5, P11.6, P11.8: workshops of all sizes: either weights or a mixture, however great their numbers are.
func TestEither(t *testing.T) {
	r := rand.New(rand.NewPCG(11, 6))
	seen := map[bool]int{}
	den, times, weight := int64(0), int64(0), int64(0)
	for i := range 60000 {
		b := random(r, []sizes{few, large, wide}[r.IntN(3)])
		if i%2 == 0 {
			b = dense(r)
		}
		from, to := someStock(r, b), someStock(r, b)
		parted := partedOf(t, b, from, to)
		seen[parted]++
		if parted {
			w, _ := bath.Weights(b, from, to)
			weight = max(weight, slices.Max(w), -slices.Min(w))
			continue
		}
		x, _ := bath.Mix(b, from, to)
		den = max(den, x.Den)
		for _, n := range x.Times {
			times = max(times, n, -n)
		}
	}
	if min(seen[true], seen[false]) < 10000 || den < 50000 || times < 40000 || weight < 4000 {
		t.Error(seen, den, times, weight)
	}
}

// P11.5, P11.6: weights and mixtures with numbers changed are told from those that are right.
func TestChanged(t *testing.T) {
	r := rand.New(rand.NewPCG(11, 7))
	seen := map[api.Errno]int{}
	for range 20000 {
		b := random(r, []sizes{few, large, wide}[r.IntN(3)])
		from, to := someStock(r, b), someStock(r, b)
		want := func(right bool) api.Errno {
			if right {
				return api.OK
			}
			return api.ErrSum
		}
		if w, e := bath.Weights(b, from, to); e == api.OK {
			w[r.IntN(len(w))] += r.Int64N(3) - 1
			e := bath.CheckWeights(b, w)
			if e != want(keeps(b, w)) {
				t.Fatal(b, w, e)
			}
			seen[e]++
			continue
		}
		x, e := bath.Mix(b, from, to)
		if e != api.OK {
			t.Fatal(b, from, to, e)
		}
		if len(x.Times) > 0 {
			x.Times[r.IntN(len(x.Times))] += r.Int64N(3) - 1
		}
		x.Den += r.Int64N(4) / 3
		e = bath.CheckMix(b, from, to, x)
		if e != want(gives(b, from, to, x)) {
			t.Fatal(b, from, to, x, e)
		}
		seen[e]++
	}
	if len(seen) != 2 || min(seen[api.OK], seen[api.ErrSum]) < 3000 {
		t.Error(seen)
	}
}

// P11.7: weights that no move changes have the same sum all along a way, so that no stock that can be reached is parted.
func TestSum(t *testing.T) {
	r := rand.New(rand.NewPCG(11, 8))
	kept, between := 0, 0
	for range 8000 {
		b := random(r, []sizes{few, large}[r.IntN(2)])
		from, other := someStock(r, b), someStock(r, b)
		w, e := bath.Weights(b, from, other)
		for range 3 {
			to := someStock(r, b)
			way, f := bath.Reach(b, from, to)
			if f != api.OK {
				continue
			}
			if partedOf(t, b, from, to) {
				t.Fatal(b, from, to)
			}
			between++
			for i := range way {
				s, _ := bath.Make(b, from, way[:i+1])
				if e == api.OK && sum(w, s) != sum(w, from) {
					t.Fatal(b, from, way, w)
				}
			}
			if e == api.OK && len(way) > 0 {
				kept++
			}
		}
		if e == api.OK && reachOf(t, b, from, other) >= 0 {
			t.Fatal(b, from, other, w)
		}
	}
	if kept < 100 || between < 1000 {
		t.Error(kept, between)
	}
}

// exchanged returns a workshop with Take and Give of all moves exchanged.
func exchanged(b api.BathSpec) api.BathSpec {
	b.Moves = slices.Clone(b.Moves)
	for i, m := range b.Moves {
		b.Moves[i] = api.BathMove{Take: m.Give, Give: m.Take}
	}
	return b
}

// P11.9: ways turned round.
func TestBack(t *testing.T) {
	r := rand.New(rand.NewPCG(11, 9))
	ways := 0
	for range 10000 {
		b := random(r, []sizes{tiny, few, large}[r.IntN(3)])
		from, to := someStock(r, b), someStock(r, b)
		way, _ := bath.Reach(b, from, to)
		if reachOf(t, b, from, to) != reachOf(t, exchanged(b), to, from) {
			t.Fatal(b, from, to)
		}
		if len(way) == 0 {
			continue
		}
		ways++
		slices.Reverse(way)
		if !leads(exchanged(b), to, from, way) {
			t.Fatal(b, from, to, way)
		}
	}
	if ways < 500 {
		t.Error(ways)
	}
}

// P11.10: by way of another stock, with a move more, and with greater caps.
func TestOver(t *testing.T) {
	r := rand.New(rand.NewPCG(11, 10))
	over, fewer := 0, 0
	for range 6000 {
		b := random(r, []sizes{tiny, few, large}[r.IntN(3)])
		from, second, to := someStock(r, b), someStock(r, b), someStock(r, b)
		n, n1, n2 := reachOf(t, b, from, to), reachOf(t, b, from, second), reachOf(t, b, second, to)
		if n1 >= 0 && n2 >= 0 {
			over++
			if n < 0 || n > n1+n2 {
				t.Fatal(b, from, second, to)
			}
		}
		more, wider := b, b
		if len(b.Moves) < api.MaxBathMoves {
			more.Moves = append(slices.Clone(b.Moves), someMove(r, few, make([]int64, len(b.Caps))))
		}
		wider.Caps = slices.Clone(b.Caps)
		wider.Caps[r.IntN(len(b.Caps))]++
		if bath.CheckBath(wider) != api.OK {
			wider = b
		}
		if stocksOf(t, more, from) < stocksOf(t, b, from) || stocksOf(t, wider, from) < stocksOf(t, b, from) {
			t.Fatal(b, from)
		}
		for _, c := range []api.BathSpec{more, wider} {
			m := reachOf(t, c, from, to)
			if n >= 0 && (m < 0 || m > n) {
				t.Fatal(b, c, from, to)
			}
			if m >= 0 && (n < 0 || m < n) {
				fewer++
			}
		}
	}
	if over < 200 || fewer < 200 {
		t.Error(over, fewer)
	}
}

// P11.11: no stock that can be reached has more than Most returns, and from one at which no move can be made there is just one.
func TestNoMore(t *testing.T) {
	r := rand.New(rand.NewPCG(11, 11))
	reached, stuck := 0, 0
	for range 3000 {
		b := random(r, []sizes{tiny, few, large}[r.IntN(3)])
		from, to := someStock(r, b), someStock(r, b)
		if reachOf(t, b, from, to) >= 0 {
			reached++
			for kind := range b.Caps {
				if most, _ := mostOf(t, b, from, kind); to[kind] > most || from[kind] > most {
					t.Fatal(b, from, to, kind, most)
				}
			}
		}
		if way, e := bath.Stuck(b, from); e == api.OK {
			last, _ := bath.Make(b, from, way)
			if stocksOf(t, b, last) != 1 || stuckOf(t, b, last) != 0 {
				t.Fatal(b, from, way)
			}
			stuck++
		}
	}
	if reached < 500 || stuck < 500 {
		t.Error(reached, stuck)
	}
}
