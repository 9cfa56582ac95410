package survey_test

import (
	"fmt"
	"slices"
	"testing"

	"recoup/api"
	"recoup/shape"
	"recoup/survey"
)

// P20.1: Look.

// sameReport asks whether two reports tell the same; nil is a list without
// elements.
func sameReport(a, b api.Report) bool {
	return a.Looked == b.Looked && a.Tolerance == b.Tolerance && slices.Equal(a.Fatal, b.Fatal) &&
		slices.Equal(a.Domains, b.Domains) && slices.Equal(a.Aisles, b.Aisles)
}

// lookIs tells where the report of a layout is another than this.
func lookIs(t *testing.T, name string, l api.Layout, want api.Report) {
	t.Helper()
	if r, e := survey.Look(l); e != api.OK || !sameReport(r, want) {
		t.Errorf("%s, tolerate %d: Look = %v, %v, want %v", name, l.Tolerate, r, e, want)
	}
}

func TestLook(t *testing.T) {
	everyLayout(func(k code, l api.Layout) {
		lookIs(t, k.name, l, slowReport(l, k.recovers))
	})
}

func TestLookKnown(t *testing.T) {
	for _, c := range []struct {
		text string
		r    api.Report
	}{
		{"code x = reed(2, 1); use x; domains 2; tolerate 2;",
			api.Report{Looked: 7, Fatal: setsOf([]int{0, 1}, []int{0, 2}, []int{1, 2}), Tolerance: 1,
				Domains: []bool{false, true}, Aisles: []bool{false, true}}},
		// Nothing but none lost is looked at, and the domains all the same.
		{"code x = reed(2, 1); use x;",
			api.Report{Looked: 1, Domains: []bool{true, true, true}, Aisles: []bool{true, false, false}}},
		{"code x = reed(1, 2); use x;",
			api.Report{Looked: 1, Domains: []bool{true, true, true}, Aisles: []bool{true, true, true}}},
		{"code x = reed(1, 2); use x; domains 2; place spread; tolerate 3;",
			api.Report{Looked: 8, Fatal: setsOf([]int{0, 1, 2}), Tolerance: 2,
				Domains: []bool{true, true}, Aisles: []bool{true, true}}},
		// A code that bears nothing; a domain without blocks.
		{"code x = reed(2, 0); use x; domains 3; tolerate 2;",
			api.Report{Looked: 4, Fatal: setsOf([]int{0}, []int{1}, []int{0, 1}),
				Domains: []bool{false, false, true}, Aisles: []bool{false, false, false}}},
		// One domain has all blocks.
		{"code x = reed(1, 3); use x; domains 1; tolerate 1;",
			api.Report{Looked: 5, Tolerance: 1, Domains: []bool{false}, Aisles: []bool{false}}},
		{"code x = matrix [9]; use x; tolerate 1;",
			api.Report{Looked: 2, Fatal: setsOf([]int{0}), Domains: []bool{false}, Aisles: []bool{false}}},
		// The aisles are 0 3, 1 2 and 4 5, the groups 0 1 4 and 2 3 5.
		{"code x = local(4, 2, 0); use x; tolerate 2;",
			api.Report{Looked: 22, Tolerance: 1,
				Fatal:   setsOf([]int{0, 1}, []int{0, 4}, []int{1, 4}, []int{2, 3}, []int{2, 5}, []int{3, 5}),
				Domains: slices.Repeat([]bool{true}, 6), Aisles: slices.Repeat([]bool{true}, 6)}},
		{"code x = local(4, 2, 0); use x; place list [0, 3, 1, 2, 5, 4];",
			api.Report{Looked: 1,
				Domains: slices.Repeat([]bool{true}, 6), Aisles: []bool{false, false, false, false, true, true}}},
		{"code x = local(4, 2, 0); use x; domains 3; place list [0, 1, 0, 1, 1, 1]; tolerate 1;",
			api.Report{Looked: 7, Tolerance: 1, Domains: []bool{true, false, true}, Aisles: []bool{true, false, false}}},
		{"code x = join(reed(1, 0), reed(1, 1)); use x; domains 3; place spiral 2; tolerate 1;",
			api.Report{Looked: 4, Fatal: setsOf([]int{0}), Domains: []bool{false, true, true}, Aisles: []bool{false, false, false}}},
	} {
		lookIs(t, c.text, from(t, c.text), c.r)
	}
}

// As many patterns as MaxPatterns, and nearly as many as that.
func TestLookAtManyPatterns(t *testing.T) {
	for _, c := range []struct{ k, m, tolerate, looked, fatal int }{
		{7, 7, 14, 16384, 6476}, {1, 13, 14, 16384, 1}, {15, 0, 7, 16384, 16383}, {14, 1, 7, 16384, 16368},
		{10, 5, 7, 16384, 11440}, {45, 1, 3, 16262, 16215}, {1, 63, 2, 2081, 0}, {64, 0, 1, 65, 64}, {64, 0, 0, 1, 0},
	} {
		k := known("cross", must(shape.Cross(c.k, c.m)))
		r, e := survey.Look(alone(k, c.tolerate))
		if e != api.OK || r.Looked != c.looked || len(r.Fatal) != c.fatal || r.Tolerance != min(c.m, c.tolerate) {
			t.Errorf("%v: %d looked at, %d fatal, tolerance %d, %v", c, r.Looked, len(r.Fatal), r.Tolerance, e)
		}
		for _, lost := range r.Fatal {
			if len(numbersOf(lost)) <= c.m {
				t.Errorf("%v: %v are fatal", c, numbersOf(lost))
			}
		}
	}
}

// What is borne is told up to Tolerate, and no further.
func TestToleranceIsAtMostTolerate(t *testing.T) {
	for _, sides := range [][2]int{{1, 0}, {1, 1}, {3, 0}, {3, 2}, {2, 5}, {6, 3}} {
		k := known(fmt.Sprint("cross", sides), must(shape.Cross(sides[0], sides[1])))
		for tolerate := range sides[0] + sides[1] + 1 {
			r, e := survey.Look(alone(k, tolerate))
			if want := min(sides[1], tolerate); r.Tolerance != want || e != api.OK {
				t.Errorf("%v, tolerate %d: the tolerance %d, %v, want %d", k, tolerate, r.Tolerance, e, want)
			}
		}
	}
}

// Where one of two blocks is not to be lost, what is borne is 0, however many
// others may be lost.
func TestToleranceOfUnlikeBlocks(t *testing.T) {
	for alike := 1; alike <= 9; alike++ {
		k := known("join", must(shape.Join(must(shape.Reed(1, alike)), must(shape.Reed(1, 0)))))
		for tolerate := range alike + 3 {
			r, e := survey.Look(alone(k, tolerate))
			if r.Tolerance != 0 || e != api.OK || (len(r.Fatal) > 0) != (tolerate > 0) {
				t.Errorf("%d blocks alike, tolerate %d: %v, %v", alike, tolerate, r, e)
			}
		}
	}
}

// What a domain loses is asked for whatever its number of blocks is, and hangs
// neither on Tolerate nor on the groups.
func TestDomainsHangOnTheHomesAlone(t *testing.T) {
	for _, k := range codes() {
		for _, p := range places(k.c.G.Rows) {
			want, e := survey.Look(laid(k, p, k.c.G.Rows))
			bare := k
			bare.c.Groups = nil
			for tolerate := range k.c.G.Rows {
				r, also := survey.Look(laid(bare, p, tolerate))
				if e != api.OK || also != api.OK || !slices.Equal(r.Domains, want.Domains) || !slices.Equal(r.Aisles, want.Aisles) {
					t.Fatalf("%v, tolerate %d: the domains %v, %v, want %v, %v", k, tolerate, r.Domains, r.Aisles, want.Domains, want.Aisles)
				}
			}
		}
	}
}

// Of each number of domains as many are told, and the aisles are those of all
// domains.
func TestLookAtEachNumberOfDomains(t *testing.T) {
	k := known("reed", must(shape.Reed(3, 3)))
	for domains := 1; domains <= 64; domains++ {
		for _, kind := range []api.PlaceKind{api.PRow, api.PSpread} {
			l := laid(k, place{kind: kind, domains: domains}, 1)
			lookIs(t, fmt.Sprint(domains, " domains"), l, slowReport(l, k.recovers))
		}
	}
	// Each block at home alone in a full hall: an aisle of eight has more blocks
	// than can be borne.
	full := known("cross", must(shape.Cross(57, 7)))
	r, e := survey.Look(alone(full, 1))
	if e != api.OK || len(r.Domains) != 64 || slices.Contains(r.Domains, false) || slices.Contains(r.Aisles, true) {
		t.Errorf("64 domains: %v, %v", r, e)
	}
	full = known("cross", must(shape.Cross(56, 8)))
	r, e = survey.Look(alone(full, 1))
	if e != api.OK || len(r.Aisles) != 64 || slices.Contains(r.Domains, false) || slices.Contains(r.Aisles, false) {
		t.Errorf("64 domains: %v, %v", r, e)
	}
}

// What Look tells of patterns is what Patterns tells.
func TestLookTellsWhatPatternsTell(t *testing.T) {
	everyLayout(func(k code, l api.Layout) {
		r, _ := survey.Look(l)
		sets, well := gone(survey.Patterns(l))
		var fatal []api.Set
		for i, s := range sets {
			if !well[i] {
				fatal = append(fatal, s)
			}
		}
		if r.Looked != len(sets) || !slices.Equal(r.Fatal, fatal) {
			t.Errorf("%v: Look tells %d, %v, Patterns %d, %v", k, r.Looked, r.Fatal, len(sets), fatal)
		}
	})
}
