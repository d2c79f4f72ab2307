package scale_test

import (
	"math"
	"slices"
	"testing"

	"mandrel/api"
	"mandrel/scale"
)

// The chapter's examples, except those of CheckScale, which TestScale has.
func TestExamples(t *testing.T) {
	s := chapter()
	if l, e := scale.Apart(s); len(l) != 3 || e != api.OK || scale.CheckApart(s, l) != api.OK {
		t.Error(l, e)
	}
	if l, e := scale.Fewest(s); len(l) != 3 || e != api.OK || scale.CheckScale(s, l) != api.OK {
		t.Error(l, e)
	}
	if l, e := scale.Spans(s); !slices.Equal(l, of(100, 140, 190, 310, 320, 400)) || e != api.OK {
		t.Error(l, e)
	}
	for i, x := range []struct {
		l    []api.Range
		k    int
		want api.ScaleShare
	}{
		{s, 1, api.ScaleShare{May: true}},
		{s, 3, api.ScaleShare{}},
		{s[:2], 1, api.ScaleShare{May: true, Must: true}},
	} {
		if got, e := scale.Share(x.l, 0, x.k); got != x.want || e != api.OK {
			t.Error(i, got, e)
		}
	}
	for steps, want := range map[int]int{1: 2, 2: 4, 3: 5} {
		checkMost(t, s, steps, want)
	}
}

// checkMost checks that Most meets so many tones with so many steps.
func checkMost(t *testing.T, l []api.Range, steps, want int) {
	t.Helper()
	got, n, e := scale.Most(l, steps)
	if n != want || len(got) > steps || e != api.OK {
		t.Error(l, steps, got, n, want, e)
	}
	if met, e := scale.Met(l, got); len(met) != n || e != api.OK {
		t.Error(l, steps, got, n, met, e)
	}
}

// P3.3, P3.4, P3.5, P3.8: a short scale, the tones that prove it, and where its steps can be.
func TestSpans(t *testing.T) {
	single := of(40, 40, 30, 30, 20, 20)
	for i, x := range []struct{ l, spans []api.Range }{
		{of(0, 10000), of(0, 10000)},
		{of(0, 0), of(0, 0)},
		{of(10000, 10000, 0, 0), of(0, 0, 10000, 10000)},
		{single, of(20, 20, 30, 30, 40, 40)},
		// Ranges that have only an end in common, and ranges that just miss each other.
		{of(10, 20, 20, 30), of(20, 20)},
		{of(10, 20, 21, 30), of(10, 20, 21, 30)},
		// One in the midst of another one, and equal ones.
		{of(10, 40, 20, 25), of(20, 25)},
		{of(20, 25, 10, 40), of(20, 25)},
		{of(7, 9, 7, 9, 7, 9), of(7, 9)},
		// Spans that have places in common, of steps of which each may take over the tone in the middle.
		{of(0, 10, 5, 25, 20, 30), of(0, 10, 20, 30)},
		{of(0, 10, 8, 22, 12, 20, 18, 30), of(0, 10, 18, 20)},
		{of(0, 6, 4, 8, 7, 12), of(0, 6, 7, 12)},
		{of(0, 10, 11, 20, 9, 11), of(0, 10, 11, 20)},
		{of(0, 10, 12, 20, 11, 11), of(0, 10, 11, 11, 12, 20)},
		{of(1, 5, 3, 9, 7, 12, 10, 15), of(3, 5, 10, 12)},
		{slices.Repeat(of(0, 10000), 24), of(0, 10000)},
		{apart(24), apart(24)},
	} {
		if l, e := scale.Spans(x.l); !slices.Equal(l, x.spans) || e != api.OK {
			t.Error(i, l, e)
		}
		if l, e := scale.Fewest(x.l); len(l) != len(x.spans) || e != api.OK || scale.CheckScale(x.l, l) != api.OK {
			t.Error(i, l, e)
		}
		if l, e := scale.Apart(x.l); len(l) != len(x.spans) || e != api.OK || scale.CheckApart(x.l, l) != api.OK {
			t.Error(i, l, e)
		}
	}
	// Only these tones are apart, and their names increase whatever the order of their ranges is.
	if l, e := scale.Apart(single); !slices.Equal(l, []int{0, 1, 2}) || e != api.OK {
		t.Error(l, e)
	}
}

// P3.6: whether tones may, or must, share a step, and names that are none.
func TestShare(t *testing.T) {
	may, must := api.ScaleShare{May: true}, api.ScaleShare{May: true, Must: true}
	// A step for the tones 0, 1 and 2, the first two of which have more in common; 3 is alone.
	near := of(10, 30, 20, 40, 25, 50, 60, 70)
	// The tone 1 is on the step of 0 or on that of 2.
	either := of(0, 10, 5, 25, 20, 30)
	// The tones 0 and 1 have places in common, but a step there leaves both ends to be met.
	dear := of(0, 20, 15, 40, 0, 5, 30, 40)
	// The tone 2 is where 0 and 1 have places in common.
	held := of(0, 10, 8, 20, 9, 10, 0, 4, 15, 20)
	for i, x := range []struct {
		l    []api.Range
		i, k int
		want api.ScaleShare
		e    api.Errno
	}{
		{near, 0, 1, must, api.OK},
		{near, 1, 0, must, api.OK},
		{near, 0, 2, must, api.OK},
		{near, 1, 2, must, api.OK},
		{near, 0, 3, api.ScaleShare{}, api.OK},
		{near, 3, 3, must, api.OK},
		{near, 0, 0, must, api.OK},
		{either, 0, 1, may, api.OK},
		{either, 1, 2, may, api.OK},
		{either, 0, 2, api.ScaleShare{}, api.OK},
		{either, 1, 1, must, api.OK},
		{of(5, 5), 0, 0, must, api.OK},
		{of(0, 10, 10, 20), 0, 1, must, api.OK},
		{of(0, 10, 11, 20), 0, 1, api.ScaleShare{}, api.OK},
		{of(0, 10000, 0, 10000), 0, 1, must, api.OK},
		{of(0, 10000, 0, 0, 10000, 10000), 0, 1, must, api.OK},
		{of(0, 10000, 0, 0, 10000, 10000), 0, 2, must, api.OK},
		{of(0, 10000, 0, 0, 10000, 10000), 1, 2, api.ScaleShare{}, api.OK},
		{dear, 0, 1, api.ScaleShare{}, api.OK},
		{dear, 1, 0, api.ScaleShare{}, api.OK},
		{dear, 0, 2, must, api.OK},
		{dear, 1, 3, must, api.OK},
		{held, 0, 1, must, api.OK},
		{held, 0, 2, must, api.OK},
		{held, 0, 3, must, api.OK},
		{held, 2, 4, api.ScaleShare{}, api.OK},
		{chapter(), 2, 3, may, api.OK},
		{chapter(), 1, 3, may, api.OK},
		{chapter(), 2, 4, may, api.OK},
		{chapter(), 1, 2, api.ScaleShare{}, api.OK},
		{chapter(), 5, 0, api.ScaleShare{}, api.ErrRange},
		{chapter(), 0, 5, api.ScaleShare{}, api.ErrRange},
		{chapter(), -1, 0, api.ScaleShare{}, api.ErrRange},
		{chapter(), 0, -1, api.ScaleShare{}, api.ErrRange},
		{chapter(), 5, 5, api.ScaleShare{}, api.ErrRange},
		{chapter(), math.MinInt, math.MaxInt, api.ScaleShare{}, api.ErrRange},
		{apart(24), 23, 23, must, api.OK},
		{apart(24), 24, 24, api.ScaleShare{}, api.ErrRange},
	} {
		if got, e := scale.Share(x.l, x.i, x.k); got != x.want || e != x.e {
			t.Error(i, got, e)
		}
	}
}

// P3.7: how many tones are met with so many steps, and numbers of steps that are out of their range.
func TestMost(t *testing.T) {
	for _, x := range []struct {
		l    []api.Range
		want []int
	}{
		{chapter(), []int{0, 2, 4, 5, 5, 5, 5}},
		{of(3, 3), []int{0, 1, 1}},
		{of(0, 0, 10000, 10000), []int{0, 1, 2, 2}},
		{slices.Repeat(of(0, 10000), 24), []int{0, 24, 24}},
		// Where most tones are is not where two steps together meet most.
		{of(0, 2, 0, 2, 0, 5, 4, 9, 2, 4, 4, 5), []int{0, 4, 6, 6}},
		{of(1, 4, 1, 4, 3, 6, 3, 6, 5, 8, 5, 8), []int{0, 4, 6, 6}},
		{of(10, 20, 18, 30, 25, 40, 35, 50, 45, 60), []int{0, 2, 4, 5, 5}},
	} {
		for steps, want := range x.want {
			checkMost(t, x.l, steps, want)
		}
	}
	for steps := range 25 {
		checkMost(t, apart(24), steps, steps)
		checkMost(t, chapter(), steps, min(5, steps*2))
	}
	for i, steps := range []int{-1, 25, math.MinInt, math.MaxInt} {
		if l, n, e := scale.Most(chapter(), steps); len(l) != 0 || n != 0 || e != api.ErrRange {
			t.Error(i, l, n, e)
		}
	}
}
