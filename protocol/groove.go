package protocol

import "mandrel/api"

// base is that of the digits of a groove file.
const base = 16

// mostPlace is the number that is written for a groove that grows by all that it can.
const mostPlace = 2 * api.MaxProtocolDepth

// letters returns how a depth is written that differs by so much from the one before it.
func letters(differ int64) string {
	z := 2 * differ
	if differ < 0 {
		z = -2*differ - 1
	}
	text := string(rune('a' + z%base))
	for z /= base; z > 0; z /= base {
		text = string(rune('A'+z%base)) + text
	}
	return text
}

// differs returns by how much a depth differs for which a number is written.
func differs(z int64) int64 {
	if z%2 == 0 {
		return z / 2
	}
	return -(z + 1) / 2
}

// depthsOf returns the depths whose groove file a text is, if it is one; not ok if a number, or the list, becomes too long for that.
func depthsOf(file string) ([]int64, bool) {
	var space [api.MaxProtocolDepths]int64
	grown := space[:0:len(space)]
	var z, depth int64
	for _, letter := range []byte(file) {
		switch {
		case within('A', 'P', letter):
			z = base*z + int64(letter-'A')
		case within('a', 'p', letter):
			depth += differs(base*z + int64(letter-'a'))
			grown = append(grown, depth)
			z = 0
		}
		if z > mostPlace || len(grown) > api.MaxProtocolDepths {
			return nil, false
		}
	}
	return taken(grown), true
}
