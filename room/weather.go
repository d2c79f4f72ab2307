package room

import "mandrel/api"

// through returns the degree to which a day leads by the deed that is done, in this weather.
func (b *board) through(degree, weather int64) int64 {
	return degree + b.Deeds[b.done(degree)].Add + weather
}

// breaks tells whether weathers keep all days from a degree on but the last one.
func (b *board) breaks(degree int64, weathers []int64) bool {
	for i, weather := range weathers {
		if !within(b.Weather.Lo, b.Weather.Hi, weather) {
			return false
		}
		degree = b.through(degree, weather)
		isLast := i == len(weathers)-1
		if b.has(degree) == isLast {
			return false
		}
	}
	return true
}

// fewest returns the fewest weathers that break what is done from a degree on, by the ranks, if it is not kept for ever.
// On each day some weather leads to where a day less is kept, and on the last one out of the room.
func (b *board) fewest(degree int64) []int64 {
	var space [api.MaxRoomDegree + 1]int64
	grown := space[:0:len(space)]
days:
	for range b.rank(degree) + 1 {
		for weather, next := range b.leads(degree, b.done(degree)) {
			if b.rank(next) < b.rank(degree) {
				grown = append(grown, weather)
				degree = next
				continue days
			}
		}
	}
	weathers := make([]int64, len(grown))
	copy(weathers, grown)
	return weathers
}
