package family_test

import (
	"slices"
	"testing"

	"mandrel/api"
	"mandrel/family"
)

// fewestOf returns the fewest changes of a tree, as Cheapest finds them, with the prices that prove them.
func fewestOf(t *testing.T, b api.FamilyBook) int64 {
	t.Helper()
	tree, fewest, e := family.Cheapest(b)
	if e != api.OK {
		t.Fatal(b, tree, fewest, e)
	}
	if changes, e := family.CheckTree(b, tree); changes != fewest || e != api.OK || changesOf(b, tree) != fewest {
		t.Fatal(b, tree, fewest, changes, e)
	}
	proof, e := family.Prices(b)
	if e != api.OK {
		t.Fatal(b, proof, e)
	}
	if bound, e := family.CheckPrices(b, proof); bound != fewest || e != api.OK || boundOf(b, proof) != fewest {
		t.Fatal(b, proof, bound, fewest, e)
	}
	return fewest
}

// gradesOf returns what Grades finds.
func gradesOf(t *testing.T, b api.FamilyBook) []int {
	t.Helper()
	grades, e := family.Grades(b)
	if len(grades) != len(b.Steps) || e != api.OK {
		t.Fatal(b, grades, e)
	}
	return grades
}

// mostOf returns what Most finds.
func mostOf(t *testing.T, b api.FamilyBook) int64 {
	t.Helper()
	most, e := family.Most(b)
	if e != api.OK {
		t.Fatal(b, most, e)
	}
	return most
}

// checkLost checks what Lost finds, and what other functions say if variants are lost.
func checkLost(t *testing.T, b api.FamilyBook, want []int) {
	t.Helper()
	err, plan := api.OK, api.ErrPlan
	if len(want) == 0 {
		err, plan = api.ErrNone, api.OK
	}
	if lost, e := family.Lost(b); !slices.Equal(lost, want) || e != err {
		t.Fatal(b, lost, want, e)
	}
	tree, fewest, e := family.Cheapest(b)
	proof, f := family.Prices(b)
	most, g := family.Most(b)
	grades, h := family.Grades(b)
	if e != plan || f != plan || g != plan || h != plan {
		t.Fatal(b, e, f, g, h)
	}
	if plan != api.OK && (tree != nil || fewest != 0 || proof != nil || most != 0 || grades != nil) {
		t.Fatal(b, tree, fewest, proof, most, grades)
	}
}

// The chapter's examples, and example 8 of DOC.md.
func TestExamples(t *testing.T) {
	f := chapter()
	for tree, want := range map[string]int64{"-1 0 2 4": 9, "-1 3 1 5": 10} {
		if changes, e := family.CheckTree(f, numbers(tree)); changes != want || e != api.OK {
			t.Error(tree, changes, e)
		}
	}
	if changes, e := family.CheckTree(f, numbers("-1 3 2 4")); changes != 0 || e != api.ErrRule {
		t.Error(changes, e)
	}
	if fewest := fewestOf(t, f); fewest != 9 {
		t.Error(fewest)
	}
	if bound, e := family.CheckPrices(f, prices("1 2, 2 1, 3 3, 1 2 3")); bound != 9 || e != api.OK {
		t.Error(bound, e)
	}
	if bound, e := family.CheckPrices(f, prices("1 2, 2 1, 3 3, 1 2 4")); bound != 0 || e != api.ErrSum {
		t.Error(bound, e)
	}
	if grades := gradesOf(t, f); !slices.Equal(grades, numbers("1 1 1 1 2 0")) {
		t.Error(grades)
	}
	if most := mostOf(t, f); most != 4 {
		t.Error(most)
	}
	checkLost(t, f, nil)
	f.Steps = f.Steps[2:]
	checkLost(t, f, numbers("1 2 3"))
}

// P8.3: the variants that are lost, without which there is a tree.
func TestLost(t *testing.T) {
	for i, x := range []struct {
		b    api.FamilyBook
		lost string
	}{
		{chapter(), ""},
		{full(), ""},
		{deep(), ""},
		{book(1, 0, ""), ""},
		{book(2, 0, ""), "1"},
		{book(2, 1, ""), "0"},
		{book(2, 0, "1 0 5"), "1"},
		{book(2, 1, "1 0 5"), ""},
		{book(16, 7, ""), "0 1 2 3 4 5 6 8 9 10 11 12 13 14 15"},
		// The steps are in another order than the variants come.
		{book(5, 0, "3 4 1, 2 3 1, 1 2 1, 0 1 1"), ""},
		{book(5, 4, "0 3 1, 1 0 1, 2 1 1, 4 2 1"), ""},
		{book(5, 0, "3 4 1, 2 3 1, 1 2 1, 1 0 1"), "1 2 3 4"},
		{book(5, 0, "3 4 1, 4 3 1, 2 3 1, 0 1 1"), "2 3 4"},
		{book(5, 0, "3 4 1, 4 3 1, 2 3 1, 0 2 1"), "1"},
		{book(5, 3, "3 4 1, 4 2 1, 1 0 1, 0 1 0, 1 3 0, 0 2 0"), "0 1"},
	} {
		checkLost(t, x.b, numbers(x.lost))
		if t.Failed() {
			t.Fatal(i)
		}
	}
}

// P8.4, P8.5, P8.6, P8.7: the fewest changes, the largest step, and the grades of steps.
func TestFind(t *testing.T) {
	for i, x := range []struct {
		b      api.FamilyBook
		fewest int64
		most   int64
		grades string
	}{
		{book(1, 0, ""), 0, 0, ""},
		{book(2, 0, "0 1 0"), 0, 0, "2"},
		{book(2, 1, "1 0 7"), 7, 7, "2"},
		{book(2, 0, "0 1 1000000, 1 0 0"), 1000000, 1000000, "2 0"},
		// Equal steps, and a step that only costs more.
		{book(2, 0, "0 1 7, 0 1 8, 0 1 7"), 7, 7, "1 0 1"},
		{book(2, 0, "0 1 0, 0 1 1, 0 1 0, 1 0 0"), 0, 0, "1 0 1 0"},
		// A circle without changes, which Root reaches at one place, or at two.
		{book(3, 0, "1 2 0, 2 1 0, 0 1 5"), 5, 5, "2 0 2"},
		{book(3, 0, "1 2 0, 2 1 0, 0 1 5, 0 2 5"), 5, 5, "1 1 1 1"},
		{book(3, 0, "1 2 0, 2 1 0, 0 1 5, 0 2 4"), 4, 4, "0 2 0 2"},
		{book(3, 0, "1 2 0, 2 1 0, 0 1 0, 0 2 0"), 0, 0, "1 1 1 1"},
		{book(3, 0, "1 2 0, 2 1 0, 0 1 0, 0 2 0, 1 0 0, 2 0 0"), 0, 0, "1 1 1 1 0 0"},
		// Not the smallest step to each variant.
		{book(3, 0, "1 2 1, 2 1 1, 0 1 9, 0 2 3"), 4, 3, "0 2 0 2"},
		{book(3, 0, "1 2 1, 2 1 7, 0 1 9, 0 2 3"), 10, 7, "1 1 1 1"},
		{book(3, 0, "1 2 1, 2 1 7, 0 1 9, 0 2 4"), 10, 7, "2 0 2 0"},
		// The largest step is smaller in another tree than in one with the fewest changes.
		{book(4, 0, "0 1 9, 1 2 0, 2 3 0, 0 3 6, 3 2 6, 2 1 6"), 9, 6, "2 2 2 0 0 0"},
		// Circles within circles.
		{book(5, 0, "1 2 1, 2 1 1, 3 4 1, 4 3 1, 2 3 3, 4 1 3, 0 1 20, 0 4 20"), 25, 20, "2 0 1 1 1 1 1 1"},
		{book(5, 0, "1 2 1, 2 1 1, 3 4 1, 4 3 1, 2 3 3, 4 1 4, 0 1 20, 0 4 20"), 25, 20, "2 0 2 0 2 0 2 0"},
		{book(5, 4, "1 2 1, 2 1 1, 3 0 1, 0 3 1, 2 3 3, 0 1 4, 4 1 20, 4 0 19"), 25, 19, "2 0 1 1 1 1 1 1"},
		{book(5, 4, "1 2 1, 2 1 1, 3 0 1, 0 3 1, 2 3 3, 0 1 4, 4 1 20, 4 2 19"), 24, 19, "0 2 2 0 2 0 0 2"},
		{book(6, 0, "0 1 1, 1 2 2, 2 3 3, 3 4 4, 4 5 5, 5 1 0, 5 2 0, 5 3 0, 5 4 0"), 15, 5, "2 2 2 2 2 0 0 0 0"},
		{book(5, 0, "0 1 2, 0 2 2, 0 3 2, 0 4 2, 1 2 2, 2 3 2, 3 4 2, 4 1 2"), 8, 2, "1 1 1 1 1 1 1 1"},
	} {
		if fewest := fewestOf(t, x.b); fewest != x.fewest {
			t.Error(i, fewest)
		}
		if most := mostOf(t, x.b); most != x.most {
			t.Error(i, most)
		}
		if grades := gradesOf(t, x.b); !slices.Equal(grades, numbers(x.grades)) {
			t.Error(i, grades)
		}
	}
}

// P8.4 to P8.7 at the limits: as many steps, changes and groups as there can be.
func TestLimits(t *testing.T) {
	b := full()
	if fewest, most := fewestOf(t, b), mostOf(t, b); fewest != 15000000 || most != 1000000 {
		t.Error(fewest, most)
	}
	// All steps on the way down from Root are equal to others; none leads up.
	for step, grade := range gradesOf(t, b) {
		if grade != step%2 {
			t.Fatal(step, grade)
		}
	}
	b = deep()
	if fewest, most := fewestOf(t, b), mostOf(t, b); fewest != 1105 || most != 1000 {
		t.Error(fewest, most)
	}
	if proof, e := family.Prices(b); len(proof) != 29 || e != api.OK {
		t.Error(proof, e)
	}
	grades := gradesOf(t, b)
	if grades[0] != 2 {
		t.Error(grades)
	}
	// Each variant comes from the one before it, and no one from the one behind it.
	for i, grade := range grades[1:] {
		if grade != 2*((i+1)%2) {
			t.Fatal(grades)
		}
	}
}
