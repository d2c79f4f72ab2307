package family

import (
	"slices"

	"mandrel/api"
)

// group tells of each variant whether it is one of some.
type group [api.MaxFamilySongs]bool

// web tells of each variant from which ones it comes; itself is one of them.
type web [api.MaxFamilySongs]group

// of returns the group of variants.
func of(songs ...int) group {
	var g group
	for _, song := range songs {
		g[song] = true
	}
	return g
}

// with returns the variants of both groups.
func (g group) with(other group) group {
	for song, is := range other {
		g[song] = g[song] || is
	}
	return g
}

// songs returns the variants of a group, increasing.
func (g group) songs() []int {
	var room [api.MaxFamilySongs]int
	grown := room[:0:len(room)]
	for song, is := range g {
		if is {
			grown = append(grown, song)
		}
	}
	return slices.Clone(grown)
}
