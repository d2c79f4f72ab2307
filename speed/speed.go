// Package speed is layer 1: see shared/doc/01-speed.md.
package speed

import (
	"slices"

	"mandrel/api"
)

// CheckSheet reports whether a sheet is valid. (P1.1)
func CheckSheet(s api.SpeedSheet) api.Errno {
	if len(s.Rules) > api.MaxSpeedRules {
		return api.ErrMany
	}
	if !within(1, api.MaxSpeedTurns, s.Turns) {
		return api.ErrArg
	}
	for _, r := range s.Rules {
		if r.From == r.To || !within(0, s.Turns, r.From, r.To) || !within(-api.MaxSpeed, api.MaxSpeed, r.Most) {
			return api.ErrRange
		}
	}
	return api.OK
}

// Whole returns the whole rules of a sheet. (P1.1)
func Whole(s api.SpeedSheet) ([]api.SpeedRule, api.Errno) {
	w, e := complete(s)
	return w.rules, e
}

// CheckSpeeds reports whether speeds are true. (P1.2)
func CheckSpeeds(s api.SpeedSheet, speeds []int64) api.Errno {
	if e := CheckSheet(s); e != api.OK {
		return e
	}
	if len(speeds) != s.Turns {
		return api.ErrEqual
	}
	if !within(0, api.MaxSpeed, speeds...) {
		return api.ErrRange
	}
	var p pace
	copy(p[1:], speeds)
	if !every(s.Rules, p.keep) {
		return api.ErrSpeed
	}
	return api.OK
}

// CheckWay returns what a way of rules costs. (P1.3)
func CheckWay(s api.SpeedSheet, from, to int, way []int) (int64, api.Errno) {
	w, e := complete(s)
	if e != api.OK {
		return 0, e
	}
	if !within(0, w.Turns, from, to) {
		return 0, api.ErrArg
	}
	if len(way) > api.MaxSpeedRules {
		return 0, api.ErrMany
	}
	if !w.named(way) {
		return 0, api.ErrRange
	}
	end, cost, ok := w.follow(from, way)
	if !ok || end != to {
		return 0, api.ErrRule
	}
	return cost, api.OK
}

// CheckCircle reports whether rules are a circle. (P1.3)
func CheckCircle(s api.SpeedSheet, circle []int) api.Errno {
	w, e := complete(s)
	if e != api.OK {
		return e
	}
	if !within(1, api.MaxSpeedRules, len(circle)) {
		return api.ErrMany
	}
	if !w.named(circle) {
		return api.ErrRange
	}
	from := w.rule(circle[0]).From
	end, cost, ok := w.follow(from, circle)
	if !ok || end != from {
		return api.ErrRule
	}
	if cost >= 0 {
		return api.ErrSum
	}
	return api.OK
}

// Circle returns a circle of rules that contradict each other. (P1.4)
func Circle(s api.SpeedSheet) ([]int, api.Errno) {
	w, e := complete(s)
	if e != api.OK {
		return nil, e
	}
	found, ok := w.spread(0, ahead)
	if ok {
		return nil, api.ErrNone
	}
	return w.circle(found.came), api.OK
}

// Span returns the least and the greatest speed of a turn. (P1.5)
func Span(s api.SpeedSheet, turn int) (api.Range, api.Errno) {
	w, e := complete(s)
	if e != api.OK {
		return api.Range{}, e
	}
	if !within(1, w.Turns, turn) {
		return api.Range{}, api.ErrRange
	}
	least, _ := w.ends(false)
	greatest, ok := w.ends(true)
	if !ok {
		return api.Range{}, api.ErrClash
	}
	return api.Range{Lo: least[turn], Hi: greatest[turn]}, api.OK
}

// Ends returns the least or the greatest speeds of all turns. (P1.5)
func Ends(s api.SpeedSheet, high bool) ([]int64, api.Errno) {
	w, e := complete(s)
	if e != api.OK {
		return nil, e
	}
	p, ok := w.ends(high)
	if !ok {
		return nil, api.ErrClash
	}
	return slices.Clone(p[1 : w.Turns+1]), api.OK
}

// Way returns the cheapest way of rules between two turns. (P1.6)
func Way(s api.SpeedSheet, from, to int) ([]int, int64, api.Errno) {
	w, e := complete(s)
	if e != api.OK {
		return nil, 0, e
	}
	if !within(0, w.Turns, from, to) {
		return nil, 0, api.ErrArg
	}
	found, ok := w.spread(from, ahead)
	if !ok {
		return nil, 0, api.ErrClash
	}
	way := w.back(found.came, to)
	return way, found.pace[to], api.OK
}
