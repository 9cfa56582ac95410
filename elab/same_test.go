package elab_test

import (
	"fmt"
	"math"
	"slices"
	"testing"

	"recoup/api"
	"recoup/elab"
)

// P17.3: which layouts are the same.

func sameIs(t *testing.T, what string, want bool, a, b api.Layout) {
	t.Helper()
	if elab.Same(a, b) != want || elab.Same(b, a) != want {
		t.Errorf("Same of %s is not %v: %s and %s", what, want, short(shown(a)), short(shown(b)))
	}
	if !elab.Same(a, a) || !elab.Same(b, b) {
		t.Errorf("%s is not the same as itself", what)
	}
}

// Whatever one thing is another: whether the layouts may be is not asked.
func TestSameOfWhatDiffersInOneThing(t *testing.T) {
	sameIs(t, "two of nothing", true, api.Layout{}, api.Layout{})
	sameIs(t, "a layout and one like it", true, laid(), laid())
	sameIs(t, "a layout and nothing", false, laid(), api.Layout{})
	turns := map[string]func(l *api.Layout){
		"one row more":         func(l *api.Layout) { l.Code.G.Rows++ },
		"one column less":      func(l *api.Layout) { l.Code.G.Cols-- },
		"sides turned":         func(l *api.Layout) { l.Code.G.Rows, l.Code.G.Cols = l.Code.G.Cols, l.Code.G.Rows },
		"no elements":          func(l *api.Layout) { l.Code.G.Data = nil },
		"one element more":     func(l *api.Layout) { l.Code.G.Data = append(l.Code.G.Data, 0) },
		"one element less":     func(l *api.Layout) { l.Code.G.Data = l.Code.G.Data[1:] },
		"no groups":            func(l *api.Layout) { l.Code.Groups = nil },
		"one group less":       func(l *api.Layout) { l.Code.Groups = l.Code.Groups[:1] },
		"one group more":       func(l *api.Layout) { l.Code.Groups = append(l.Code.Groups, 0) },
		"groups turned":        func(l *api.Layout) { slices.Reverse(l.Code.Groups) },
		"no homes":             func(l *api.Layout) { l.Homes = nil },
		"one home more":        func(l *api.Layout) { l.Homes = append(l.Homes, 0) },
		"one home less":        func(l *api.Layout) { l.Homes = l.Homes[:5] },
		"homes turned":         func(l *api.Layout) { slices.Sort(l.Homes) },
		"one domain more":      func(l *api.Layout) { l.Domains++ },
		"no domains":           func(l *api.Layout) { l.Domains = 0 },
		"less than no domains": func(l *api.Layout) { l.Domains = math.MinInt },
		"one lost block less":  func(l *api.Layout) { l.Tolerate-- },
		"far too many lost":    func(l *api.Layout) { l.Tolerate = math.MaxInt },
	}
	for i := range laid().Code.G.Data {
		turns[fmt.Sprint("the element ", i)] = func(l *api.Layout) { l.Code.G.Data[i] ^= 128 }
	}
	for i := range laid().Homes {
		turns[fmt.Sprint("the home ", i)] = func(l *api.Layout) { l.Homes[i] = -7 }
	}
	for i := range laid().Code.Groups {
		turns[fmt.Sprint("the group ", i)] = func(l *api.Layout) { l.Code.Groups[i] ^= 1 << 63 }
	}
	for what, turn := range turns {
		sameIs(t, what, false, laid(), relaid(turn))
		sameIs(t, what+", twice", true, relaid(turn), relaid(turn))
	}
}

// Rule 4: nil and empty lists are the same. The room behind is of no moment.
func TestSameOfEmptyLists(t *testing.T) {
	empty := api.Layout{Code: api.Code{G: api.Matrix{Data: []byte{}}, Groups: []api.Set{}}, Homes: []int{}}
	cut := api.Layout{Code: api.Code{G: api.Matrix{Data: []byte{1}[:0]}, Groups: []api.Set{1}[:0]}, Homes: []int{1}[:0]}
	sameIs(t, "nil and empty lists", true, api.Layout{}, empty)
	sameIs(t, "nil lists and such with room", true, api.Layout{}, cut)
	sameIs(t, "a home of nought", false, empty, api.Layout{Homes: []int{0}})
	sameIs(t, "a group of nothing", false, empty, api.Layout{Code: code(api.Matrix{}, 0)})
	sameIs(t, "an element of nought", false, empty, api.Layout{Code: code(api.Matrix{Data: []byte{0}})})
	none := relaid(func(l *api.Layout) { l.Code.Groups = nil })
	without := relaid(func(l *api.Layout) { l.Code.Groups = []api.Set{} })
	sameIs(t, "no groups either way", true, none, without)
	mayBe(t, "no groups", true, none)
	mayBe(t, "empty groups", true, without)
}

// Layouts are the same just if all that can be shown of them is.
func TestSameOfAnyLayouts(t *testing.T) {
	met := map[bool]int{}
	for seed := range 1500 {
		_, c := written(seed)
		a, _ := slowBuild(c)
		_, again := written(seed)
		b, _ := slowBuild(again)
		sameIs(t, "a layout, made twice", true, a, b)
		s := seeded(seed + 2000000)
		for range 4 {
			s.change(&a)
			want := shown(a) == shown(b)
			met[want]++
			sameIs(t, "a layout and what it was", want, a, b)
		}
	}
	if met[true] < 100 || met[false] < 1000 {
		t.Errorf("%d of the layouts are the same, %d are not", met[true], met[false])
	}
}
