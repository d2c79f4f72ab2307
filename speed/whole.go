package speed

import (
	"iter"
	"slices"

	"mandrel/api"
)

// far is above what any way costs: it stands for a turn that no way has come to.
const far = 1 << 40

// whole is a valid sheet with its whole rules.
type whole struct {
	api.SpeedSheet
	rules []api.SpeedRule
}

// pace is the speed of each turn, at the index that is the turn; the first one is that of the turn 0.
type pace [api.MaxSpeedTurns + 1]int64

// reach is the greatest speeds if that of one turn is 0, and for each other turn the name of the rule by which its speed came.
type reach struct {
	pace
	came map[int]int
}

// complete returns a sheet with its whole rules.
func complete(s api.SpeedSheet) (whole, api.Errno) {
	if e := CheckSheet(s); e != api.OK {
		return whole{}, e
	}
	rules := slices.Clone(s.Rules)
	for t := 1; t <= s.Turns; t++ {
		rules = append(rules, api.SpeedRule{To: t, Most: api.MaxSpeed}, api.SpeedRule{From: t})
	}
	return whole{s, rules}, api.OK
}

// rule returns the rule of a name; without one it is none, which has equal ends as no valid rule has.
func (w whole) rule(name int) api.SpeedRule {
	if !within(0, len(w.rules)-1, name) {
		return api.SpeedRule{}
	}
	return w.rules[name]
}

// named tells whether all of a list are names of rules.
func (w whole) named(list []int) bool {
	for _, name := range list {
		if w.rule(name) == (api.SpeedRule{}) {
			return false
		}
	}
	return true
}

// follow returns the turn to which names of rules lead from a turn, and what they cost; not ok if they are no way from there.
func (w whole) follow(from int, names []int) (to int, cost int64, ok bool) {
	to = from
	for _, name := range names {
		r := w.rule(name)
		if r.From != to {
			return 0, 0, false
		}
		to = r.To
		cost += r.Most
	}
	return to, cost, true
}

// each yields the whole rules with their names, as the view shows them.
func (w whole) each(view func(api.SpeedRule) api.SpeedRule) iter.Seq2[int, api.SpeedRule] {
	return func(yield func(int, api.SpeedRule) bool) {
		for name, r := range w.rules {
			if !yield(name, view(r)) {
				return
			}
		}
	}
}

// ahead shows a rule as it is.
func ahead(r api.SpeedRule) api.SpeedRule { return r }

// around shows a rule from its other end, so that ways to a turn become ways from it.
func around(r api.SpeedRule) api.SpeedRule {
	return api.SpeedRule{From: r.To, To: r.From, Most: r.Most}
}

// keep tells whether the speeds keep a rule.
func (p pace) keep(r api.SpeedRule) bool { return p[r.To] <= p[r.From]+r.Most }

// every tells whether all rules are kept.
func every(rules []api.SpeedRule, kept func(api.SpeedRule) bool) bool {
	for _, r := range rules {
		if !kept(r) {
			return false
		}
	}
	return true
}

// spread finds what the cheapest ways from a turn cost; not ok if there are none, since a circle makes ever cheaper ones.
// Without a circle a cheapest way comes to no turn twice, so that as many rounds as there are turns, with the turn 0, end with one that lowers nothing.
func (w whole) spread(from int, view func(api.SpeedRule) api.SpeedRule) (reach, bool) {
	found := reach{came: map[int]int{}}
	for t := range found.pace {
		found.pace[t] = far
	}
	found.pace[from] = 0
	for range w.Turns + 1 {
		before := found.pace
		for name, r := range w.each(view) {
			if found.pace[r.From] < far && !found.keep(r) {
				found.pace[r.To] = found.pace[r.From] + r.Most
				found.came[r.To] = name
			}
		}
		if found.pace == before {
			return found, true
		}
	}
	return found, false
}

// ends returns the greatest speeds of all turns, or the least ones; not ok if no speeds are true.
func (w whole) ends(high bool) (pace, bool) {
	view := func(r api.SpeedRule) api.SpeedRule {
		if high {
			return ahead(r)
		}
		return around(r)
	}
	found, ok := w.spread(0, view)
	p := found.pace
	if !high {
		for t := range p {
			p[t] = -p[t]
		}
	}
	return p, ok
}

// back returns the way by which a turn was come to, and takes its rules out of the map.
// It ends at a turn without one: where all ways begin, or where the rule has been taken out already.
func (w whole) back(came map[int]int, turn int) []int {
	var names [api.MaxSpeedTurns + 1]int
	end := len(names)
	grown := names[end:end:end]
	for {
		name, ok := came[turn]
		if !ok {
			break
		}
		delete(came, turn)
		first := end - len(grown) - 1
		names[first] = name
		grown = names[first:end:end]
		turn = w.rules[name].From
	}
	way := make([]int, len(grown))
	copy(way, grown)
	return way
}

// circle returns a circle of the rules by which turns came, one of which there is if spread has found no cheapest ways.
// Each rule made the turn to which it leads cheaper, so that those that lead back to where they begin cost less than 0.
func (w whole) circle(came map[int]int) []int {
	var circle []int
search:
	for t := range w.Turns + 1 {
		way := w.back(came, t)
		for i, name := range way {
			if w.rules[name].To == w.rules[way[0]].From {
				circle = way[: i+1 : i+1]
				break search
			}
		}
	}
	return circle
}
