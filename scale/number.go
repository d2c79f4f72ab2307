package scale

import (
	"cmp"
	"iter"

	"mandrel/api"
)

// within tells whether all numbers are from lo to hi.
func within[N cmp.Ordered](lo, hi N, numbers ...N) bool {
	for _, n := range numbers {
		if n < lo || n > hi {
			return false
		}
	}
	return true
}

// rising tells whether a list strictly increases.
func rising[N cmp.Ordered](list []N) bool {
	for i := 1; i < len(list); i++ {
		if list[i-1] >= list[i] {
			return false
		}
	}
	return true
}

// greatest returns the first one of several whose size no other one exceeds; not ok if there are none.
func greatest[T any](several iter.Seq[T], size func(T) int) (best T, ok bool) {
	for x := range several {
		if !ok || size(x) > size(best) {
			best, ok = x, true
		}
	}
	return best, ok
}

// valid tells whether all ranges are valid, with ends that a tone can have.
func valid(ranges ...api.Range) bool {
	for _, r := range ranges {
		if r.Lo > r.Hi || !within(0, api.MaxScaleCents, r.Lo, r.Hi) {
			return false
		}
	}
	return true
}

// common returns the numbers that are in both ranges; it is not valid if there are none.
func common(a, b api.Range) api.Range {
	return api.Range{Lo: max(a.Lo, b.Lo), Hi: min(a.Hi, b.Hi)}
}

// without returns ranges whose ends are moved inwards, out of a gap; one that has no number outside of the gap is not valid then.
// A range may still have the gap in its midst.
func without(ranges []api.Range, gap api.Range) []api.Range {
	var rest []api.Range
	for _, r := range ranges {
		if within(gap.Lo, gap.Hi, r.Lo) {
			r.Lo = gap.Hi + 1
		}
		if within(gap.Lo, gap.Hi, r.Hi) {
			r.Hi = gap.Lo - 1
		}
		rest = append(rest, r)
	}
	return rest
}
