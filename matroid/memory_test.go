package matroid_test

import (
	"bytes"
	"fmt"
	"math"
	"testing"

	"recoup/api"
	"recoup/matroid"
)

// answers is what all calls answer of a matrix, a number and a set, as a text.
func answers(g api.Matrix, b int, s api.Set) string {
	rank, e := matroid.Rank(g, s)
	free, e1 := matroid.Free(g, s)
	covers, e2 := matroid.Covers(g, s)
	told := fmt.Sprintln(rank, e, free, e1, covers, e2)
	for _, call := range calls() {
		set, e := call.ask(g, s)
		told += fmt.Sprintln(call.name, set, e)
	}
	c, ok, e := matroid.Circuit(g, b, s)
	return told + fmt.Sprintln(c, ok, e)
}

// handed are matrices of all kinds, some that calls refuse among them.
func handed() []api.Matrix {
	var made []api.Matrix
	for _, k := range append(small(), great()...) {
		made = append(made, k.g)
	}
	return append(made,
		api.Matrix{Rows: 2, Cols: 2, Data: list(3, 1)},
		api.Matrix{Rows: 2, Cols: 2, Data: list(5, 1)},
		api.Matrix{Rows: 65, Cols: 1, Data: list(65, 1)})
}

// Rule 5: what is handed in stays as it is, the room behind its end too, also
// where a call fails; that room is of no moment, and nothing is kept.
func TestWhatIsHandedInStays(t *testing.T) {
	for i, g := range handed() {
		for _, s := range []api.Set{0, 1, 5, 6, 14, 1 << 63, 1<<63 - 1, math.MaxUint64} {
			for _, b := range []int{-1, 4, 63} {
				before := bytes.Clone(g.Data[:cap(g.Data)])
				told := answers(g, b, s)
				if !bytes.Equal(g.Data[:cap(g.Data)], before) {
					t.Fatalf("matrix %d is changed by the calls with %d and %#x", i, b, s)
				}
				bare := api.Matrix{Rows: g.Rows, Cols: g.Cols, Data: g.Data[:len(g.Data):len(g.Data)]}
				if other := answers(bare, b, s); other != told {
					t.Errorf("matrix %d, %d, %#x: %s, without room behind %s", i, b, s, told, other)
				}
			}
		}
	}
}

// Rule 4: nil and a list without elements are the same.
func TestNilIsAListWithoutElements(t *testing.T) {
	for _, sides := range [][2]int{{0, 0}, {0, 64}, {64, 0}, {3, 0}, {2, 2}} {
		for _, s := range []api.Set{0, 1, math.MaxUint64} {
			one := answers(api.Matrix{Rows: sides[0], Cols: sides[1]}, 1, s)
			other := answers(api.Matrix{Rows: sides[0], Cols: sides[1], Data: []byte{}}, 1, s)
			if one != other {
				t.Errorf("%d, %#x: of nil %s, of no elements %s", sides, s, one, other)
			}
		}
	}
}
