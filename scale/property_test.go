package scale_test

import (
	"math/bits"
	"math/rand/v2"
	"slices"
	"testing"

	"mandrel/api"
	"mandrel/scale"
)

// window is how many places small songs have, so that all scales can be tried out.
const window = 10

// small returns a random song with up to so many tones, and the first place of the window in which it is.
func small(r *rand.Rand, most int) ([]api.Range, int64) {
	first := []int64{0, 1, 500, api.MaxScaleCents - window + 1}[r.IntN(4)]
	wide := 1 + r.Int64N(window)
	var l []api.Range
	for range 1 + r.IntN(most) {
		lo := r.Int64N(window)
		l = append(l, rg(first+lo, first+min(window-1, lo+r.Int64N(wide))))
	}
	return l, first
}

// large returns a random song with up to all tones and cents.
func large(r *rand.Rand) []api.Range {
	wide := 1 + r.Int64N(api.MaxScaleCents>>r.IntN(8))
	var l []api.Range
	for range 1 + r.IntN(api.MaxScaleTones) {
		lo := r.Int64N(api.MaxScaleCents + 1)
		l = append(l, rg(lo, min(api.MaxScaleCents, lo+r.Int64N(wide))))
	}
	return l
}

// holds tells whether a number is in a range.
func holds(x api.Range, n int64) bool { return x.Lo <= n && n <= x.Hi }

// met returns the tones that a scale meets.
func met(l []api.Range, steps []int64) []int {
	var names []int
	for i, x := range l {
		if slices.ContainsFunc(steps, func(n int64) bool { return holds(x, n) }) {
			names = append(names, i)
		}
	}
	return names
}

// all returns all scales with steps in a window.
func all(first int64) [][]int64 {
	var scales [][]int64
	for set := range 1 << window {
		var steps []int64
		for i := range window {
			if set>>i&1 == 1 {
				steps = append(steps, first+int64(i))
			}
		}
		scales = append(scales, steps)
	}
	return scales
}

// short returns all short scales, by trying out all of a window.
func short(l []api.Range, first int64) [][]int64 {
	var best [][]int64
	for _, steps := range all(first) {
		if len(met(l, steps)) < len(l) {
			continue
		}
		if len(best) > 0 && len(steps) < len(best[0]) {
			best = nil
		}
		if len(best) == 0 || len(steps) == len(best[0]) {
			best = append(best, steps)
		}
	}
	return best
}

// shares tells whether two tones share a step of a scale.
func shares(a, b api.Range, steps []int64) bool {
	return slices.ContainsFunc(steps, func(n int64) bool { return holds(a, n) && holds(b, n) })
}

// P3.3, P3.4, P3.5, P3.6: what is told of small songs is what all their short scales say.
func TestShort(t *testing.T) {
	r := rand.New(rand.NewPCG(3, 1))
	seen := map[api.ScaleShare]int{}
	for range 1500 {
		l, first := small(r, 8)
		scales := short(l, first)
		if got, e := scale.Fewest(l); !slices.ContainsFunc(scales, func(s []int64) bool { return slices.Equal(s, got) }) || e != api.OK {
			t.Fatal(l, got, e)
		}
		if got, e := scale.Apart(l); len(got) != len(scales[0]) || e != api.OK || scale.CheckApart(l, got) != api.OK {
			t.Fatal(l, got, e)
		}
		var spans []api.Range
		for i := range scales[0] {
			x := rg(scales[0][i], scales[0][i])
			for _, s := range scales {
				x = rg(min(x.Lo, s[i]), max(x.Hi, s[i]))
			}
			spans = append(spans, x)
		}
		if got, e := scale.Spans(l); !slices.Equal(got, spans) || e != api.OK {
			t.Fatal(l, got, e, spans)
		}
		for i := range l {
			for k := range l {
				n := 0
				for _, s := range scales {
					if shares(l[i], l[k], s) {
						n++
					}
				}
				want := api.ScaleShare{May: n > 0, Must: n == len(scales)}
				seen[want]++
				if got, e := scale.Share(l, i, k); got != want || e != api.OK {
					t.Fatal(l, i, k, got, e, want)
				}
			}
		}
	}
	if len(seen) != 3 || seen[api.ScaleShare{May: true}] < 1000 {
		t.Error(seen)
	}
}

// P3.7: Most meets as many tones as the best of all scales with at most so many steps.
func TestMostOfAll(t *testing.T) {
	r := rand.New(rand.NewPCG(3, 2))
	for range 700 {
		l, first := small(r, 12)
		var want [window + 1]int
		for _, s := range all(first) {
			want[len(s)] = max(want[len(s)], len(met(l, s)))
		}
		for steps := range want {
			if steps > 0 {
				want[steps] = max(want[steps], want[steps-1])
			}
			checkMost(t, l, steps, want[steps])
		}
		checkMost(t, l, api.MaxScaleTones, len(l))
	}
}

// P3.2, P3.4: any scales and any lists of tones, and the error that comes first.
func TestLists(t *testing.T) {
	r := rand.New(rand.NewPCG(3, 3))
	seen, other := map[api.Errno]int{}, map[api.Errno]int{}
	for range 30000 {
		l, first := small(r, 6)
		var list []int64
		for range r.IntN(5) {
			list = append(list, first+r.Int64N(window))
		}
		if r.IntN(3) > 0 {
			slices.Sort(list)
			list = slices.Compact(list)
		}
		if len(list) > 0 && r.IntN(15) == 0 {
			list[r.IntN(len(list))] = []int64{-1, api.MaxScaleCents + 1}[r.IntN(2)]
		}
		want := api.OK
		switch {
		case slices.ContainsFunc(list, func(n int64) bool { return n < 0 || n > api.MaxScaleCents }):
			want = api.ErrRange
		case !slices.IsSorted(list) || len(slices.Compact(slices.Clone(list))) < len(list):
			want = api.ErrRule
		case len(met(l, list)) < len(l):
			want = api.ErrTone
		}
		seen[want]++
		if e := scale.CheckScale(l, list); e != want {
			t.Fatal(l, list, e, want)
		}
		names, e := scale.Met(l, list)
		if want == api.OK || want == api.ErrTone {
			if !slices.Equal(names, met(l, list)) || e != api.OK {
				t.Fatal(l, list, names, e)
			}
		} else if len(names) != 0 || e != want {
			t.Fatal(l, list, names, e, want)
		}
		var tones []int
		for range r.IntN(4) {
			tones = append(tones, r.IntN(len(l)+1)-r.IntN(20)/19)
		}
		if r.IntN(3) > 0 {
			slices.Sort(tones)
			tones = slices.Compact(tones)
		}
		want = checkTones(l, tones)
		other[want]++
		if e := scale.CheckApart(l, tones); e != want {
			t.Fatal(l, tones, e, want)
		}
	}
	if len(seen) != 4 || len(other) != 3 {
		t.Error(seen, other)
	}
}

// checkTones is what CheckApart has to return, by trying all numbers in the ranges.
func checkTones(l []api.Range, tones []int) api.Errno {
	for i, n := range tones {
		if n < 0 || n >= len(l) || i > 0 && tones[i-1] >= n {
			return api.ErrRange
		}
	}
	seen := map[int64]bool{}
	for _, name := range tones {
		for n := l[name].Lo; n <= l[name].Hi; n++ {
			if seen[n] {
				return api.ErrSum
			}
			seen[n] = true
		}
	}
	return api.OK
}

// P3.8, P3.9, G3: on songs of all sizes, tones that are apart prove the short scale, and the ends of its spans are short scales.
func TestProved(t *testing.T) {
	r := rand.New(rand.NewPCG(3, 4))
	for range 3000 {
		l := large(r)
		steps, e := scale.Fewest(l)
		tones, f := scale.Apart(l)
		spans, g := scale.Spans(l)
		if e != api.OK || f != api.OK || g != api.OK || len(steps) != len(tones) || len(steps) != len(spans) {
			t.Fatal(l, steps, tones, spans, e, f, g)
		}
		if scale.CheckScale(l, steps) != api.OK || scale.CheckApart(l, tones) != api.OK {
			t.Fatal(l, steps, tones)
		}
		var low, high []int64
		for i, x := range spans {
			if !holds(x, steps[i]) {
				t.Fatal(l, steps, spans)
			}
			low, high = append(low, x.Lo), append(high, x.Hi)
		}
		if scale.CheckScale(l, low) != api.OK || scale.CheckScale(l, high) != api.OK {
			t.Fatal(l, spans)
		}
		// No short scale has a step below its least place, or above its greatest one.
		i := r.IntN(len(spans))
		for _, x := range []api.Range{rg(0, spans[i].Lo-1), rg(spans[i].Hi+1, api.MaxScaleCents)} {
			if x.Lo <= x.Hi && canMove(l, i, x, len(spans)) {
				t.Fatal(l, spans, i, x)
			}
		}
	}
}

// canMove tells whether a short scale of so many steps has the step i in a range: at a place such that i steps meet all tones below it, and the others all above it.
func canMove(l []api.Range, i int, x api.Range, count int) bool {
	places := []int64{x.Lo, x.Hi}
	for _, y := range l {
		for _, n := range []int64{y.Lo, y.Hi} {
			if holds(x, n) {
				places = append(places, n)
			}
		}
	}
	return slices.ContainsFunc(places, func(n int64) bool {
		return fewest(l, func(y api.Range) bool { return y.Hi < n }) <= i &&
			fewest(l, func(y api.Range) bool { return y.Lo > n }) <= count-1-i
	})
}

// fewest returns how many steps are needed for some of the tones.
func fewest(l []api.Range, which func(api.Range) bool) int {
	var some []api.Range
	for _, x := range l {
		if which(x) {
			some = append(some, x)
		}
	}
	steps, _ := scale.Fewest(some)
	return len(steps)
}

// P3.10: with a narrower range, or one more tone, there are not fewer steps.
func TestNarrower(t *testing.T) {
	r := rand.New(rand.NewPCG(3, 5))
	more := 0
	for range 3000 {
		l := large(r)
		other := slices.Clone(l)
		if len(l) < api.MaxScaleTones && r.IntN(2) == 0 {
			other = slices.Insert(other, r.IntN(len(l)+1), large(r)[0])
		} else {
			x := &other[r.IntN(len(l))]
			x.Lo += r.Int64N(x.Hi - x.Lo + 1)
			x.Hi -= r.Int64N(x.Hi - x.Lo + 1)
		}
		a, e := scale.Fewest(l)
		b, f := scale.Fewest(other)
		if len(a) > len(b) || e != api.OK || f != api.OK {
			t.Fatal(l, other, a, b, e, f)
		}
		if len(a) < len(b) {
			more++
		}
	}
	if more < 100 {
		t.Error(more)
	}
}

// P3.11: songs that are turned, or moved up, have spans that are so, too, and the same shares.
func TestTurned(t *testing.T) {
	r := rand.New(rand.NewPCG(3, 6))
	turn := func(l []api.Range) []api.Range {
		var out []api.Range
		for _, x := range l {
			out = append(out, rg(api.MaxScaleCents-x.Hi, api.MaxScaleCents-x.Lo))
		}
		return out
	}
	raise := func(l []api.Range, by int64) []api.Range {
		var out []api.Range
		for _, x := range l {
			out = append(out, rg(x.Lo+by, x.Hi+by))
		}
		return out
	}
	for range 1000 {
		l := large(r)
		spans, e := scale.Spans(l)
		turned, f := scale.Spans(turn(l))
		slices.Reverse(turned)
		if !slices.Equal(turn(spans), turned) || e != api.OK || f != api.OK {
			t.Fatal(l, spans, turned, e, f)
		}
		by := api.MaxScaleCents - slices.MaxFunc(l, func(a, b api.Range) int { return int(a.Hi - b.Hi) }).Hi
		by -= r.Int64N(by + 1)
		if raised, e := scale.Spans(raise(l, by)); !slices.Equal(raise(spans, by), raised) || e != api.OK {
			t.Fatal(l, by, spans, raised, e)
		}
		for range 10 {
			i, k := r.IntN(len(l)), r.IntN(len(l))
			a, e := scale.Share(l, i, k)
			b, f := scale.Share(turn(l), i, k)
			c, g := scale.Share(raise(l, by), i, k)
			if a != b || a != c || e != api.OK || f != api.OK || g != api.OK {
				t.Fatal(l, i, k, by, a, b, c, e, f, g)
			}
		}
	}
}

// P3.12: of all pairs of tones: those that must share may, those that are apart may not, each must with itself, and it does not matter which one comes first.
func TestShared(t *testing.T) {
	r := rand.New(rand.NewPCG(3, 7))
	for range 300 {
		l := large(r)
		for i := range l {
			for k := range l {
				s, e := scale.Share(l, i, k)
				back, f := scale.Share(l, k, i)
				if e != api.OK || f != api.OK || s != back || s.Must && !s.May {
					t.Fatal(l, i, k, s, back, e, f)
				}
				if i == k && !s.Must || i < k && s.May && scale.CheckApart(l, []int{i, k}) == api.OK {
					t.Fatal(l, i, k, s)
				}
			}
		}
	}
}

// P3.13: one step more meets no fewer tones; as many as a short scale has meet all, fewer do not.
func TestKept(t *testing.T) {
	r := rand.New(rand.NewPCG(3, 8))
	for range 300 {
		l := large(r)
		steps, e := scale.Fewest(l)
		before := 0
		for n := range api.MaxScaleTones + 1 {
			got, count, f := scale.Most(l, n)
			if e != api.OK || f != api.OK || count < before || (count == len(l)) != (n >= len(steps)) || len(got) > n {
				t.Fatal(l, n, got, count, before, e, f)
			}
			if found, e := scale.Met(l, got); len(found) != count || e != api.OK {
				t.Fatal(l, n, got, count, found, e)
			}
			before = count
		}
	}
}

// P3.7 at the limit: no scale with three steps at ends of 24 tones meets more than Most.
func TestMostOfMany(t *testing.T) {
	r := rand.New(rand.NewPCG(3, 9))
	for range 60 {
		l := large(r)
		var sets []uint
		for _, x := range l {
			var set uint
			for i, y := range l {
				if holds(y, x.Lo) {
					set |= 1 << i
				}
			}
			sets = append(sets, set)
		}
		want := 0
		for _, a := range sets {
			for _, b := range sets {
				for _, c := range sets {
					want = max(want, bits.OnesCount(a|b|c))
				}
			}
		}
		checkMost(t, l, 3, want)
	}
}
