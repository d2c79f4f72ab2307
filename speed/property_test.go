package speed_test

import (
	"math/rand/v2"
	"slices"
	"testing"

	"mandrel/api"
	"mandrel/speed"
)

// top is the greatest speed that the rules of small sheets allow, so that all their speeds can be tried.
const top = 5

// between returns random rules, from and to which turns and by how much at most, as a sheet allows them.
func between(r *rand.Rand, first, turns, count int, most int64) []api.SpeedRule {
	var l []api.SpeedRule
	for turns > first && len(l) < count {
		x := rule(first+r.IntN(turns-first+1), first+r.IntN(turns-first+1), r.Int64N(2*most+1)-most)
		if x.From != x.To {
			l = append(l, x)
		}
	}
	return l
}

// small returns a random sheet whose speeds are from 0 to top.
func small(r *rand.Rand) api.SpeedSheet {
	s := of(1 + r.IntN(4))
	for t := 1; t <= s.Turns; t++ {
		s.Rules = append(s.Rules, rule(0, t, top))
	}
	s.Rules = append(s.Rules, between(r, 1, s.Turns, r.IntN(5), 3)...)
	s.Rules = append(s.Rules, between(r, 0, s.Turns, r.IntN(4), top)...)
	return s
}

// large returns a random sheet with up to all turns and rules, true for some speeds or not.
func large(r *rand.Rand) api.SpeedSheet {
	s := of(1 + r.IntN(api.MaxSpeedTurns))
	count := r.IntN(api.MaxSpeedRules + 1)
	if r.IntN(4) == 0 {
		s.Rules = between(r, 0, s.Turns, count, api.MaxSpeed)
		return s
	}
	// Rules that certain speeds keep, some of which are then made a little stricter.
	speeds := make([]int64, s.Turns+1)
	for t := 1; t <= s.Turns; t++ {
		speeds[t] = r.Int64N(api.MaxSpeed + 1)
	}
	for _, x := range between(r, 0, s.Turns, count, 0) {
		x.Most = min(speeds[x.To]-speeds[x.From]+r.Int64N(2000)-r.Int64N(30), api.MaxSpeed)
		x.Most = max(x.Most, -api.MaxSpeed)
		s.Rules = append(s.Rules, x)
	}
	return s
}

// kept tells whether speeds, with that of the turn 0 in front, keep rules.
func kept(rules []api.SpeedRule, speeds []int64) bool {
	for _, x := range rules {
		if speeds[x.To] > speeds[x.From]+x.Most {
			return false
		}
	}
	return true
}

// allTrue returns all true speeds of a small sheet, each with that of the turn 0 in front.
func allTrue(s api.SpeedSheet) [][]int64 {
	var found [][]int64
	speeds := make([]int64, s.Turns+1)
	for {
		if kept(s.Rules, speeds) {
			found = append(found, slices.Clone(speeds))
		}
		t := 1
		for t <= s.Turns && speeds[t] == top {
			speeds[t] = 0
			t++
		}
		if t > s.Turns {
			return found
		}
		speeds[t]++
	}
}

// cheapest returns what the cheapest ways between any two turns cost; not ok if there is a circle.
func cheapest(s api.SpeedSheet) ([][]int64, bool) {
	rules, _ := speed.Whole(s)
	n := s.Turns + 1
	d := make([][]int64, n)
	for a := range d {
		d[a] = slices.Repeat([]int64{1 << 40}, n)
		d[a][a] = 0
	}
	for _, x := range rules {
		d[x.From][x.To] = min(d[x.From][x.To], x.Most)
	}
	for m := range n {
		for a := range n {
			for b := range n {
				d[a][b] = min(d[a][b], d[a][m]+d[m][b])
				if d[a][a] < 0 {
					return nil, false
				}
			}
		}
	}
	return d, true
}

// extent returns the least and the greatest of the numbers that come from all true speeds.
func extent(all [][]int64, of func(speeds []int64) int64) (int64, int64) {
	lo, hi := of(all[0]), of(all[0])
	for _, speeds := range all {
		lo, hi = min(lo, of(speeds)), max(hi, of(speeds))
	}
	return lo, hi
}

// P1.2, P1.4, P1.5, P1.6, P1.8: what is told of small sheets is what all their true speeds say.
func TestSmall(t *testing.T) {
	r := rand.New(rand.NewPCG(1, 1))
	clashes := 0
	for range 3000 {
		s := small(r)
		all := allTrue(s)
		for _, speeds := range all {
			if e := speed.CheckSpeeds(s, speeds[1:]); e != api.OK {
				t.Fatal(s, speeds, e)
			}
		}
		if len(all) == 0 {
			clashes++
			checkClash(t, s)
			continue
		}
		if c, e := speed.Circle(s); len(c) != 0 || e != api.ErrNone {
			t.Fatal(s, c, e)
		}
		for a := 1; a <= s.Turns; a++ {
			lo, hi := extent(all, func(v []int64) int64 { return v[a] })
			if x, e := speed.Span(s, a); x != (api.Range{Lo: lo, Hi: hi}) || e != api.OK {
				t.Fatal(s, a, x, e)
			}
			heard := 1 + r.Int64N(api.MaxSpeedTone)
			lo, hi = extent(all, func(v []int64) int64 { return heard * v[a] / 16000 })
			if x, e := speed.Sung(s, a, heard); x != (api.Range{Lo: lo, Hi: hi}) || e != api.OK {
				t.Fatal(s, a, heard, x, e)
			}
		}
		for a := range s.Turns + 1 {
			for b := range s.Turns + 1 {
				_, hi := extent(all, func(v []int64) int64 { return v[b] - v[a] })
				way, cost, e := speed.Way(s, a, b)
				if n, f := speed.CheckWay(s, a, b, way); cost != hi || n != hi || e != api.OK || f != api.OK {
					t.Fatal(s, a, b, way, cost, e, n, f)
				}
			}
		}
	}
	if clashes < 300 || clashes > 2700 {
		t.Error("sheets of one kind are missing:", clashes)
	}
}

// checkClash checks that a circle proves that no speeds of a sheet are true, and that all functions say so.
func checkClash(t *testing.T, s api.SpeedSheet) {
	t.Helper()
	c, e := speed.Circle(s)
	if f := speed.CheckCircle(s, c); e != api.OK || f != api.OK {
		t.Fatal(s, c, e, f)
	}
	for a := range s.Turns + 1 {
		if _, _, e := speed.Way(s, a, s.Turns); e != api.ErrClash {
			t.Fatal(s, a, e)
		}
		if _, e := speed.Span(s, a); a > 0 && e != api.ErrClash {
			t.Fatal(s, a, e)
		}
		if _, e := speed.Sung(s, a, 1); a > 0 && e != api.ErrClash {
			t.Fatal(s, a, e)
		}
	}
	for _, high := range []bool{false, true} {
		if l, e := speed.Ends(s, high); len(l) != 0 || e != api.ErrClash {
			t.Fatal(s, high, l, e)
		}
	}
}

// P1.9, P1.10 and G1: on sheets of all sizes, the ends are true speeds, reached and proved by ways; or there is a circle.
func TestHeldOrCircle(t *testing.T) {
	r := rand.New(rand.NewPCG(2, 2))
	clashes := 0
	for range 2000 {
		s := large(r)
		d, ok := cheapest(s)
		low, e := speed.Ends(s, false)
		high, _ := speed.Ends(s, true)
		if ok != (e == api.OK) {
			t.Fatal(s, ok, e)
		}
		if !ok {
			clashes++
			checkClash(t, s)
			continue
		}
		if c, e := speed.Circle(s); len(c) != 0 || e != api.ErrNone {
			t.Fatal(s, c, e)
		}
		if speed.CheckSpeeds(s, low) != api.OK || speed.CheckSpeeds(s, high) != api.OK {
			t.Fatal(s, low, high)
		}
		for a := 1; a <= s.Turns; a++ {
			x, e := speed.Span(s, a)
			if x != (api.Range{Lo: low[a-1], Hi: high[a-1]}) || x.Hi != d[0][a] || x.Lo != -d[a][0] || e != api.OK {
				t.Fatal(s, a, x, e)
			}
		}
	}
	if clashes < 200 || clashes > 1800 {
		t.Error("sheets of one kind are missing:", clashes)
	}
}

// P1.11: a third turn on the way makes nothing cheaper, one rule more nothing dearer or wider.
func TestWays(t *testing.T) {
	r := rand.New(rand.NewPCG(3, 3))
	compared := 0
	for range 400 {
		s := large(r)
		d, ok := cheapest(s)
		if !ok || len(s.Rules) == api.MaxSpeedRules {
			continue
		}
		more := s
		more.Rules = append(slices.Clone(s.Rules), between(r, 0, s.Turns, 1, api.MaxSpeed)...)
		for a := range s.Turns + 1 {
			for b := range s.Turns + 1 {
				way, cost, e := speed.Way(s, a, b)
				if n, f := speed.CheckWay(s, a, b, way); cost != d[a][b] || n != cost || e != api.OK || f != api.OK {
					t.Fatal(s, a, b, way, cost, n, e, f)
				}
				c := r.IntN(s.Turns + 1)
				_, one, _ := speed.Way(s, a, c)
				if _, other, _ := speed.Way(s, c, b); cost > one+other {
					t.Fatal(s, a, c, b)
				}
				if _, n, f := speed.Way(more, a, b); f == api.OK && n > cost {
					t.Fatal(more, a, b, n, cost)
				}
			}
		}
		for a := 1; a <= s.Turns; a++ {
			x, _ := speed.Span(s, a)
			if y, e := speed.Span(more, a); e == api.OK {
				compared++
				if y.Lo < x.Lo || y.Hi > x.Hi {
					t.Fatal(more, a, x, y)
				}
			}
		}
	}
	if compared < 100 {
		t.Error("too few sheets with a rule more:", compared)
	}
}

// P1.12: rules between turns alone, turned around, have mirrored spans and true speeds.
func TestMirrored(t *testing.T) {
	r := rand.New(rand.NewPCG(4, 4))
	compared := 0
	for range 1000 {
		s := of(2 + r.IntN(5))
		s.Rules = between(r, 1, s.Turns, r.IntN(8), api.MaxSpeed)
		mirror := of(s.Turns)
		for _, x := range s.Rules {
			mirror.Rules = append(mirror.Rules, rule(x.To, x.From, x.Most))
		}
		for a := 1; a <= s.Turns; a++ {
			x, e := speed.Span(s, a)
			y, f := speed.Span(mirror, a)
			if e != f || e == api.OK && y != (api.Range{Lo: api.MaxSpeed - x.Hi, Hi: api.MaxSpeed - x.Lo}) {
				t.Fatal(s, a, x, y, e, f)
			}
		}
		speeds, e := speed.Ends(s, r.IntN(2) == 0)
		for i := range speeds {
			speeds[i] = api.MaxSpeed - speeds[i]
		}
		if e == api.OK {
			compared++
			if f := speed.CheckSpeeds(mirror, speeds); f != api.OK {
				t.Fatal(s, speeds, f)
			}
		}
	}
	if compared < 100 {
		t.Error("too few sheets with true speeds:", compared)
	}
}

// P1.13: a speed keeps both rules of a pipe just if the pipe is heard in the range.
func TestHeard(t *testing.T) {
	r := rand.New(rand.NewPCG(5, 5))
	for i := range 120 {
		pipe, lo, hi := 1+r.Int64N(api.MaxSpeedTone), 1+r.Int64N(api.MaxSpeedTone), 1+r.Int64N(api.MaxSpeedTone)
		if i%2 == 0 {
			pipe, lo, hi = 1+r.Int64N(20), 1+r.Int64N(20000), 1+r.Int64N(20000)
		}
		x := api.Range{Lo: min(lo, hi), Hi: max(lo, hi)}
		if i%3 == 0 {
			x.Hi = x.Lo
		}
		rules, e := speed.Pipe(1, pipe, x)
		some := false
		for v := range int64(api.MaxSpeed + 1) {
			sound := pipe * api.SpeedPlayed
			in := v > 0 && x.Lo*v <= sound && sound <= x.Hi*v
			some = some || in
			if e == api.OK && in != kept(rules, []int64{0, v}) {
				t.Fatal(pipe, x, v, rules)
			}
		}
		if some != (e == api.OK) || !some && e != api.ErrSpeed {
			t.Fatal(pipe, x, rules, e)
		}
	}
}
