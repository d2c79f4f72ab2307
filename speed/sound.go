package speed

import "mandrel/api"

// Pipe returns the rules of a pipe that is heard. (P1.7)
func Pipe(turn int, pipe int64, heard api.Range) ([]api.SpeedRule, api.Errno) {
	if !within(1, api.MaxSpeedTurns, turn) {
		return nil, api.ErrArg
	}
	if !within(1, api.MaxSpeedTone, pipe, heard.Lo, heard.Hi) || heard.Lo > heard.Hi {
		return nil, api.ErrRange
	}
	least, greatest := bounds(pipe*api.SpeedPlayed, heard.Lo, heard.Hi)
	greatest = min(greatest, api.MaxSpeed)
	if least > greatest {
		return nil, api.ErrSpeed
	}
	return []api.SpeedRule{{To: turn, Most: greatest}, {From: turn, Most: -least}}, api.OK
}

// Spring returns the rules of a spring that runs down. (P1.7)
func Spring(first, last int, drop int64) ([]api.SpeedRule, api.Errno) {
	if !within(1, api.MaxSpeedTurns, first, last) || first >= last {
		return nil, api.ErrArg
	}
	if !within(0, api.MaxSpeed, drop) {
		return nil, api.ErrRange
	}
	var rules []api.SpeedRule
	for t := first; t < last; t++ {
		rules = append(rules, api.SpeedRule{From: t, To: t + 1}, api.SpeedRule{From: t + 1, To: t, Most: drop})
	}
	return rules, api.OK
}

// Sung returns what was sung in a turn. (P1.8)
func Sung(s api.SpeedSheet, turn int, heard int64) (api.Range, api.Errno) {
	if e := CheckSheet(s); e != api.OK {
		return api.Range{}, e
	}
	// Before Span, whose error for a clash comes behind this one.
	if !within(1, api.MaxSpeedTone, heard) {
		return api.Range{}, api.ErrRange
	}
	span, e := Span(s, turn)
	if e != api.OK {
		return api.Range{}, e
	}
	return api.Range{Lo: heard * span.Lo / api.SpeedPlayed, Hi: heard * span.Hi / api.SpeedPlayed}, api.OK
}
