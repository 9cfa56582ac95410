package matroid_test

import (
	"math"
	"testing"

	"recoup/api"
	"recoup/matroid"
)

// fails tells where a call over a matrix and a set did not answer this error
// and nothing beside it.
func fails(t *testing.T, g api.Matrix, s api.Set, want api.Errno) {
	t.Helper()
	if rank, e := matroid.Rank(g, s); rank != 0 || e != want {
		t.Errorf("Rank of %d x %d and %#x = %d, %v, want %v", g.Rows, g.Cols, s, rank, e, want)
	}
	if free, e := matroid.Free(g, s); free || e != want {
		t.Errorf("Free of %d x %d and %#x = %v, %v, want %v", g.Rows, g.Cols, s, free, e, want)
	}
	if covers, e := matroid.Covers(g, s); covers || e != want {
		t.Errorf("Covers of %d x %d and %#x = %v, %v, want %v", g.Rows, g.Cols, s, covers, e, want)
	}
	for _, call := range calls() {
		if got, e := call.ask(g, s); got != 0 || e != want {
			t.Errorf("%s of %d x %d and %#x = %#x, %v, want %v", call.name, g.Rows, g.Cols, s, got, e, want)
		}
	}
}

// notRows are numbers that are no row of a matrix with so many.
func notRows(rows int) []int {
	return []int{-1, -2, -64, math.MinInt, math.MinInt32, rows, rows + 1, rows + 64, 64, 65, 1 << 32, math.MaxInt - 1, math.MaxInt}
}

// Of a matrix that is not right ErrShape is told, whatever else is wrong.
func TestMatricesThatAreNotRight(t *testing.T) {
	for _, g := range wrong() {
		for _, s := range []api.Set{0, 1, 3, 1 << 5, 1 << 63, math.MaxUint64} {
			fails(t, g, s, api.ErrShape)
			for _, b := range append(notRows(g.Rows), 0, 1, 5, 63) {
				circuitFails(t, g, b, s, api.ErrShape)
			}
		}
	}
}

// matrices of which each set of rows may be Free, or none but the empty one.
func matrices(rows int) []api.Matrix {
	return []api.Matrix{noughts(rows, 0), noughts(rows, 2), identity(rows), uniform(rows, 2).g}
}

// A number that is no row, alone, beside one that is, beside all that are.
func TestSetsWithANumberThatIsNoRow(t *testing.T) {
	for _, rows := range []int{0, 1, 2, 5, 31, 32, 62, 63} {
		for _, g := range matrices(rows) {
			for number := rows; number < 64; number++ {
				sets := []api.Set{setOf(number), setOf(rising(0, rows)...) | setOf(number), setOf(rising(rows, 64)...), math.MaxUint64}
				if rows > 0 {
					sets = append(sets, setOf(0, number), setOf(rows-1, number))
				}
				for _, s := range sets {
					fails(t, g, s, api.ErrArg)
					circuitFails(t, g, 0, s, api.ErrArg)
					circuitFails(t, g, rows-1, s, api.ErrArg)
					circuitFails(t, g, number, s, api.ErrArg)
				}
			}
		}
	}
}

// With sets that are Free otherwise.
func TestCircuitOfWhatIsNoRow(t *testing.T) {
	for _, rows := range []int{0, 1, 2, 5, 63, 64} {
		for _, g := range matrices(rows) {
			for _, b := range notRows(rows) {
				circuitFails(t, g, b, 0, api.ErrArg)
				if rows > 0 && g.Rows == g.Cols {
					circuitFails(t, g, b, setOf(rows-1), api.ErrArg)
				}
			}
		}
	}
}

// b may not be in s, be it Free or not, be the row noughts or not.
func TestCircuitOfARowInTheSet(t *testing.T) {
	for _, k := range append(small(), great()...) {
		for _, s := range append(k.freeSets(), k.sets()...) {
			for _, b := range k.some(s) {
				circuitFails(t, k.g, b, setOf(s...), api.ErrArg)
			}
		}
	}
}

// Whether the row b would be a combination or not.
func TestCircuitOfASetThatIsNotFree(t *testing.T) {
	for _, k := range append(small(), great()...) {
		for _, s := range k.sets() {
			if k.free(s) {
				continue
			}
			for _, b := range append(k.some(k.others(s)), -1, k.g.Rows) {
				circuitFails(t, k.g, b, setOf(s...), api.ErrArg)
			}
		}
	}
}
