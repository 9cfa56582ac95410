package survey_test

import (
	"iter"
	"slices"
	"testing"

	"recoup/api"
	"recoup/shape"
	"recoup/survey"
)

// P20.1: Patterns.

// gone is what is told when patterns are gone through.
func gone(patterns iter.Seq2[api.Set, bool]) (sets []api.Set, well []bool) {
	for s, ok := range patterns {
		sets, well = append(sets, s), append(well, ok)
	}
	return sets, well
}

// patternsAre tells where the patterns of a layout are others than these.
func patternsAre(t *testing.T, name string, l api.Layout, sets []api.Set, well []bool) {
	t.Helper()
	gotSets, gotWell := gone(survey.Patterns(l))
	if !slices.Equal(gotSets, sets) {
		t.Errorf("%s: the patterns %v, want %v", name, gotSets, sets)
	}
	if !slices.Equal(gotWell, well) {
		t.Errorf("%s: recovered are %v, want %v", name, gotWell, well)
	}
}

// modelled are the patterns of a layout by the models.
func modelled(k code, l api.Layout) (sets []api.Set, well []bool) {
	sets = slowPatterns(l.Code.G.Rows, l.Tolerate)
	for _, lost := range sets {
		well = append(well, k.recovers(lost))
	}
	return sets, well
}

func TestPatterns(t *testing.T) {
	everyLayout(func(k code, l api.Layout) {
		sets, well := modelled(k, l)
		patternsAre(t, k.name, l, sets, well)
	})
}

func TestPatternsKnown(t *testing.T) {
	for _, c := range []struct {
		text string
		sets []api.Set
		well []bool
	}{
		{"code x = reed(2, 1); use x; domains 2; tolerate 2;",
			setsOf(nil, []int{0}, []int{1}, []int{2}, []int{0, 1}, []int{0, 2}, []int{1, 2}),
			[]bool{true, true, true, true, false, false, false}},
		{"code x = reed(1, 2); use x;", []api.Set{0}, []bool{true}},
		{"code x = matrix [5]; use x; tolerate 1;", setsOf(nil, []int{0}), []bool{true, false}},
		{"code x = matrix [0; 5; 0; 3]; use x; tolerate 2;",
			setsOf(nil, []int{0}, []int{1}, []int{2}, []int{3}, []int{0, 1}, []int{0, 2}, []int{0, 3}, []int{1, 2}, []int{1, 3}, []int{2, 3}),
			[]bool{true, true, true, true, true, true, true, true, true, false, true}},
		{"code x = join(reed(1, 0), reed(1, 1)); use x; tolerate 3;",
			setsOf(nil, []int{0}, []int{1}, []int{2}, []int{0, 1}, []int{0, 2}, []int{1, 2}, []int{0, 1, 2}),
			[]bool{true, false, true, true, false, false, false, false}},
	} {
		patternsAre(t, c.text, from(t, c.text), c.sets, c.well)
	}
}

// As many as MaxPatterns, and nearly as many as that.
func TestManyPatterns(t *testing.T) {
	for _, c := range []struct{ k, m, tolerate, count int }{
		{7, 7, 14, 16384}, {15, 0, 7, 16384}, {10, 5, 7, 16384}, {45, 1, 3, 16262}, {1, 63, 2, 2081}, {60, 4, 2, 2081}, {64, 0, 1, 65}, {63, 1, 0, 1},
	} {
		k := known("cross", must(shape.Cross(c.k, c.m)))
		sets, well := gone(survey.Patterns(alone(k, c.tolerate)))
		if len(sets) != c.count || !slices.Equal(sets, slowPatterns(c.k+c.m, c.tolerate)) {
			t.Errorf("%v: %d patterns, want %d, in their order", c, len(sets), c.count)
		}
		for i, s := range sets {
			// Of this code any blocks will do, as long as there are enough.
			if want := len(numbersOf(s)) <= c.m; well[i] != want {
				t.Errorf("%v: recovered %v are %v", c, numbersOf(s), well[i])
			}
		}
	}
}

// Patterns hang neither on the homes nor on the groups.
func TestPatternsHangOnTheGeneratorAlone(t *testing.T) {
	for _, k := range codes() {
		blocks := k.c.G.Rows
		sets, well := modelled(k, alone(k, blocks))
		bare := k
		bare.c.Groups = nil
		for _, p := range places(blocks) {
			patternsAre(t, k.name, laid(bare, p, blocks), sets, well)
		}
	}
}

// A loop that is left tells nothing more, and none of what is told is told
// again.
func TestPatternsLeftEarly(t *testing.T) {
	for _, k := range codes() {
		l := alone(k, k.c.G.Rows)
		sets, well := modelled(k, l)
		patterns := survey.Patterns(l)
		for stop := 1; stop <= len(sets); stop++ {
			told := 0
			for s, ok := range patterns {
				if s != sets[told] || ok != well[told] {
					t.Errorf("%v: %v, %v at %d", k, numbersOf(s), ok, told)
				}
				if told++; told == stop {
					break
				}
			}
			if told != stop {
				t.Errorf("%v: %d patterns, left behind %d", k, told, stop)
			}
		}
	}
}

// A function that says no is not asked again, wherever it does.
func TestPatternsAskNoMore(t *testing.T) {
	l := from(t, "code x = local(4, 2, 0); use x; tolerate 3;")
	count := len(slowPatterns(6, 3))
	for stop := range count {
		asked := 0
		survey.Patterns(l)(func(api.Set, bool) bool {
			asked++
			return asked <= stop
		})
		if asked != stop+1 {
			t.Errorf("asked %d times, though told no at %d", asked, stop)
		}
	}
}

func TestPatternsGoneOverAgain(t *testing.T) {
	for _, k := range codes() {
		l := alone(k, k.c.G.Rows)
		sets, well := modelled(k, l)
		patterns := survey.Patterns(l)
		for range 3 {
			for range patterns {
				break
			}
			gotSets, gotWell := gone(patterns)
			if !slices.Equal(gotSets, sets) || !slices.Equal(gotWell, well) {
				t.Errorf("%v: another time the patterns %v, %v", k, gotSets, gotWell)
			}
		}
	}
}

// Loops over the same patterns, one within the other and one beside the other,
// don't meet.
func TestPatternsWithinPatterns(t *testing.T) {
	k := known("pyramid", must(shape.Pyramid(2, 1, 1)))
	l := alone(k, 3)
	sets, well := modelled(k, l)
	patterns := survey.Patterns(l)
	told := 0
	for s, ok := range patterns {
		if s != sets[told] || ok != well[told] {
			t.Errorf("outside %v, %v", numbersOf(s), ok)
		}
		told++
		if gotSets, gotWell := gone(patterns); !slices.Equal(gotSets, sets) || !slices.Equal(gotWell, well) {
			t.Errorf("within the patterns %v, %v", gotSets, gotWell)
		}
	}
	next, stop := iter.Pull2(patterns)
	defer stop()
	for s, ok := range patterns {
		if other, also, there := next(); other != s || also != ok || !there {
			t.Errorf("beside %v, %v: %v, %v, %v", numbersOf(s), ok, numbersOf(other), also, there)
		}
	}
	if told != len(sets) {
		t.Errorf("%d patterns", told)
	}
}

// What is answered is of the layout that was handed in then, whatever becomes
// of that one, also while it is gone over.
func TestPatternsOfALayoutThatIsChanged(t *testing.T) {
	for _, k := range codes() {
		l := alone(k, k.c.G.Rows)
		sets, well := modelled(k, l)
		l.Code.G.Data, l.Homes, l.Code.Groups = slices.Clone(l.Code.G.Data), slices.Clone(l.Homes), slices.Clone(l.Code.Groups)
		patterns := survey.Patterns(l)
		told := 0
		for s, ok := range patterns {
			if s != sets[told] || ok != well[told] {
				t.Errorf("%v: while it is changed %v, %v", k, numbersOf(s), ok)
			}
			l.Code.G.Data[told%len(l.Code.G.Data)]++
			l.Homes[told%len(l.Homes)] = -1
			for i := range l.Code.Groups {
				l.Code.Groups[i]++
			}
			told++
		}
		clear(l.Code.G.Data)
		if gotSets, gotWell := gone(patterns); !slices.Equal(gotSets, sets) || !slices.Equal(gotWell, well) {
			t.Errorf("%v: behind a change %v, %v", k, gotSets, gotWell)
		}
		if gotSets, _ := gone(survey.Patterns(l)); len(gotSets) > 0 {
			t.Errorf("%v: of noughts %v", k, gotSets)
		}
	}
}

// One that may not be, when it is handed in, has none later on either.
func TestPatternsOfALayoutThatIsMended(t *testing.T) {
	l := from(t, "code x = reed(2, 1); use x; tolerate 2;")
	l.Homes[1] = 3
	patterns := survey.Patterns(l)
	l.Homes[1] = 1
	if sets, _ := gone(patterns); len(sets) > 0 {
		t.Errorf("the patterns %v", sets)
	}
}
