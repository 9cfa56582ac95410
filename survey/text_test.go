package survey_test

import (
	"math"
	"slices"
	"strings"
	"testing"

	"recoup/api"
	"recoup/survey"
)

// P20.3

// textIs tells where a report is told otherwise.
func textIs(t *testing.T, r api.Report, lines ...string) {
	t.Helper()
	want := strings.Join(lines, "\n") + "\n"
	if got := survey.Text(r); got != want {
		t.Errorf("Text of %v = %q, want %q", r, got, want)
	}
}

func TestTextKnown(t *testing.T) {
	example, _ := survey.Look(from(t, "code x = reed(2, 1); use x; domains 2; tolerate 2;"))
	textIs(t, example, "looked 7", "tolerance 1", "fatal 0 1", "fatal 0 2", "fatal 1 2", "domain 0 no no", "domain 1 yes yes")
	textIs(t, api.Report{}, "looked 0", "tolerance 0")
	textIs(t, api.Report{Looked: 12, Tolerance: 3, Fatal: []api.Set{}, Domains: []bool{}, Aisles: []bool{}}, "looked 12", "tolerance 3")
	textIs(t, api.Report{Domains: []bool{true, true, false, false}, Aisles: []bool{true, false, true, false}},
		"looked 0", "tolerance 0", "domain 0 yes yes", "domain 1 yes no", "domain 2 no yes", "domain 3 no no")
}

// A list that is shorter tells no.
func TestTextOfListsOfUnlikeLengths(t *testing.T) {
	textIs(t, api.Report{Domains: []bool{true, false, true}}, "looked 0", "tolerance 0", "domain 0 yes no", "domain 1 no no", "domain 2 yes no")
	textIs(t, api.Report{Aisles: []bool{true, false, true}}, "looked 0", "tolerance 0", "domain 0 no yes", "domain 1 no no", "domain 2 no yes")
	textIs(t, api.Report{Domains: []bool{true}, Aisles: []bool{false, true}}, "looked 0", "tolerance 0", "domain 0 yes no", "domain 1 no yes")
	textIs(t, api.Report{Domains: []bool{false, true}, Aisles: []bool{true}}, "looked 0", "tolerance 0", "domain 0 no yes", "domain 1 yes no")
	// What lies behind a list's end is not told.
	room := []bool{true, true, true}
	textIs(t, api.Report{Domains: room[:1], Aisles: room[:2]}, "looked 0", "tolerance 0", "domain 0 yes yes", "domain 1 no yes")
}

// Reports that no layout has.
func TestTextOfAnyReport(t *testing.T) {
	textIs(t, api.Report{Looked: math.MinInt, Tolerance: math.MaxInt}, "looked -9223372036854775808", "tolerance 9223372036854775807")
	textIs(t, api.Report{Looked: math.MaxInt, Tolerance: math.MinInt}, "looked 9223372036854775807", "tolerance -9223372036854775808")
	textIs(t, api.Report{Looked: -1, Tolerance: -10}, "looked -1", "tolerance -10")
	// Sets in any order, more than once, of no numbers and of all.
	textIs(t, api.Report{Fatal: setsOf([]int{63}, nil, []int{0, 63}, []int{2, 1}, nil, []int{0, 63})},
		"looked 0", "tolerance 0", "fatal 63", "fatal", "fatal 0 63", "fatal 1 2", "fatal", "fatal 0 63")
	all := "fatal 0 1 2 3 4 5 6 7 8 9 10 11 12 13 14 15 16 17 18 19 20 21 22 23 24 25 26 27 28 29 30 31" +
		" 32 33 34 35 36 37 38 39 40 41 42 43 44 45 46 47 48 49 50 51 52 53 54 55 56 57 58 59 60 61 62 63"
	textIs(t, api.Report{Fatal: []api.Set{math.MaxUint64}}, "looked 0", "tolerance 0", all)
	for seed := range 2000 {
		r := anyReport(seeded(seed))
		if got, want := survey.Text(r), slowText(r); got != want {
			t.Errorf("Text of %v = %q, want %q", r, got, want)
		}
	}
}

// anyReport is one of numbers and lists of any kind.
func anyReport(s *source) api.Report {
	numbers := []int{0, 1, 9, 10, -1, -10, 16384, math.MaxInt, math.MinInt, s.below(1000)}
	r := api.Report{Looked: one(s, numbers), Tolerance: one(s, numbers)}
	for range s.below(6) {
		var lost api.Set
		for range s.below(9) {
			lost |= set(s.below(64))
		}
		r.Fatal = append(r.Fatal, lost)
	}
	for range s.below(12) {
		r.Domains = append(r.Domains, s.below(2) == 0)
	}
	for range s.below(12) {
		r.Aisles = append(r.Aisles, s.below(2) == 0)
	}
	return r
}

// Lists that are longer than any layout's.
func TestTextOfLongLists(t *testing.T) {
	r := api.Report{
		Fatal:   slices.Repeat(setsOf([]int{5, 60}, nil), 10000),
		Domains: slices.Repeat([]bool{true, false}, 20000),
		Aisles:  slices.Repeat([]bool{false, true, true}, 1000),
	}
	lines := strings.SplitAfter(survey.Text(r), "\n")
	if len(lines) != 2+20000+40000+1 || lines[60002] != "" {
		t.Fatalf("%d lines", len(lines)-1)
	}
	for place, want := range map[int]string{
		2: "fatal 5 60\n", 3: "fatal\n", 20001: "fatal\n", 20002: "domain 0 yes no\n", 20003: "domain 1 no yes\n",
		20004: "domain 2 yes yes\n", 23001: "domain 2999 no yes\n", 23002: "domain 3000 yes no\n", 60001: "domain 39999 no no\n",
	} {
		if lines[place] != want {
			t.Errorf("the line %d is %q, want %q", place, lines[place], want)
		}
	}
}

func TestTextOfWhatLookTells(t *testing.T) {
	everyLayout(func(k code, l api.Layout) {
		r, _ := survey.Look(l)
		if got, want := survey.Text(r), slowText(slowReport(l, k.recovers)); got != want {
			t.Errorf("%v: %q, want %q", k, got, want)
		}
	})
}
