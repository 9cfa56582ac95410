package shape_test

import (
	"math"
	"slices"
	"testing"

	"recoup/api"
	"recoup/shape"
)

// P16.1

func same(t *testing.T, a, b api.Code, want bool) {
	t.Helper()
	if shape.Same(a, b) != want || shape.Same(b, a) != want {
		t.Errorf("Same(%v, %v) is not %v, both ways", a, b, want)
	}
}

// different are codes of which no two are the same, some that may be and many
// that may not.
func different() []api.Code {
	data := []byte{1, 0, 0, 1, 1, 1}
	return []api.Code{
		{},
		{Groups: []api.Set{0}},
		{Groups: []api.Set{0, 0}},
		{Groups: []api.Set{1}},
		{G: api.Matrix{Rows: 1}},
		{G: api.Matrix{Cols: 1}},
		{G: api.Matrix{Rows: -1}},
		{G: api.Matrix{Rows: math.MinInt, Cols: math.MaxInt}},
		{G: api.Matrix{Rows: math.MaxInt, Cols: math.MinInt}},
		{G: api.Matrix{Data: []byte{0}}},
		{G: api.Matrix{Data: []byte{0, 0}}},
		{G: api.Matrix{Data: []byte{1}}},
		{G: api.Matrix{Rows: 3, Cols: 2, Data: data}},
		{G: api.Matrix{Rows: 2, Cols: 3, Data: data}},
		{G: api.Matrix{Rows: 6, Cols: 1, Data: data}},
		{G: api.Matrix{Rows: 3, Cols: 1, Data: data}},
		{G: api.Matrix{Rows: 4, Cols: 2, Data: data}},
		{G: api.Matrix{Rows: 3, Cols: 2, Data: data[:5]}},
		{G: api.Matrix{Rows: 3, Cols: 2, Data: append(slices.Clone(data), 0)}},
		{G: api.Matrix{Rows: 3, Cols: 2, Data: []byte{1, 0, 0, 1, 1, 2}}},
		{G: api.Matrix{Rows: 3, Cols: 2, Data: []byte{2, 0, 0, 1, 1, 1}}},
		{G: api.Matrix{Rows: 3, Cols: 2, Data: data}, Groups: []api.Set{7}},
		{G: api.Matrix{Rows: 3, Cols: 2, Data: data}, Groups: []api.Set{7, 7}},
		{G: api.Matrix{Rows: 3, Cols: 2, Data: data}, Groups: []api.Set{7, 0}},
		{G: api.Matrix{Rows: 3, Cols: 2, Data: data}, Groups: []api.Set{0, 7}},
		{G: api.Matrix{Rows: 3, Cols: 2, Data: data}, Groups: []api.Set{0}},
		{G: api.Matrix{Rows: 3, Cols: 2, Data: data}, Groups: []api.Set{7 | 1<<63}},
		{G: api.Matrix{Rows: 3, Cols: 2, Data: data}, Groups: []api.Set{1 << 63}},
		{G: api.Matrix{Rows: 65, Cols: 65, Data: list(65*65, 1)}},
		{G: api.Matrix{Rows: 65, Cols: 65, Data: list(65*65, 2)}},
		{G: filled(64, 64, 1)},
		{G: filled(64, 64, 1), Groups: make([]api.Set, 20000)},
		{G: filled(64, 64, 1), Groups: make([]api.Set, 20001)},
	}
}

func TestSame(t *testing.T) {
	all := different()
	for i, a := range all {
		for j, b := range all {
			same(t, a, b, i == j)
			// With lists of their own, and room behind them.
			same(t, a, code(b.G, b.Groups...), i == j)
		}
	}
}

func TestSameByEachEntryAndEachGroup(t *testing.T) {
	c := code(filled(16, 8, 1), set(0), set(1), set(2), 0, set(1))
	for i := range c.G.Data {
		other := code(c.G, c.Groups...)
		other.G.Data[i] ^= 1
		same(t, c, other, false)
	}
	for i := range c.Groups {
		other := code(c.G, c.Groups...)
		other.Groups[i] ^= set(40)
		same(t, c, other, false)
	}
	swapped := code(c.G, set(1), set(0), set(2), 0, set(1))
	same(t, c, swapped, false)
}

// Rule 4: nil and empty lists are the same. The room behind is of no moment.
func TestSameOfListsThatAreEmpty(t *testing.T) {
	for _, sides := range [][2]int{{0, 0}, {0, 5}, {5, 0}, {1, 1}, {-1, 70}} {
		without := api.Code{G: api.Matrix{Rows: sides[0], Cols: sides[1]}}
		empty := without
		empty.G.Data, empty.Groups = []byte{}, []api.Set{}
		cut := without
		cut.G.Data, cut.Groups = []byte{1, 2}[:0], []api.Set{1, 2}[:0]
		same(t, without, empty, true)
		same(t, without, cut, true)
		same(t, empty, cut, true)
	}
}
