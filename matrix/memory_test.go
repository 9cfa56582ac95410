package matrix_test

import (
	"slices"
	"testing"

	"recoup/api"
	"recoup/matrix"
)

// data is what a call answers of a matrix.
func data(m api.Matrix, _ api.Errno) []byte { return m.Data }

// calls are all of the package that are handed lists, each over two matrices,
// telling the list that it answers.
func calls() map[string]func(a, b api.Matrix) []byte {
	return map[string]func(a, b api.Matrix) []byte{
		"Right":         func(a, _ api.Matrix) []byte { matrix.Right(a); return nil },
		"Same":          func(a, b api.Matrix) []byte { matrix.Same(a, b); return nil },
		"Of":            func(a, b api.Matrix) []byte { return data(matrix.Of(a.Data, b.Data)) },
		"Of one":        func(a, _ api.Matrix) []byte { return data(matrix.Of(a.Data)) },
		"Row first":     func(a, _ api.Matrix) []byte { row, _ := matrix.Row(a, 0); return row },
		"Row last":      func(a, _ api.Matrix) []byte { row, _ := matrix.Row(a, a.Rows-1); return row },
		"Mul":           func(a, b api.Matrix) []byte { return data(matrix.Mul(a, b)) },
		"Apply":         func(a, b api.Matrix) []byte { x, _ := matrix.Apply(a, b.Data); return x },
		"Transpose":     func(a, _ api.Matrix) []byte { return data(matrix.Transpose(a)) },
		"Pick of none":  func(a, _ api.Matrix) []byte { return data(matrix.Pick(a)) },
		"Pick of 0":     func(a, _ api.Matrix) []byte { return data(matrix.Pick(a, 0)) },
		"Pick of 0 1 0": func(a, _ api.Matrix) []byte { return data(matrix.Pick(a, 0, 1, 0)) },
		"Stack":         func(a, b api.Matrix) []byte { return data(matrix.Stack(a, b)) },
		"Kron":          func(a, b api.Matrix) []byte { return data(matrix.Kron(a, b)) },
	}
}

// pairs are arguments of all kinds: identities, none, some that calls refuse.
func pairs() [][2]api.Matrix {
	one := of(1, 1)
	three := of(3, 1, 0, 0, 0, 1, 0, 0, 0, 1)
	return [][2]api.Matrix{
		{filled(3, 3, 1), filled(3, 3, 2)},
		{filled(3, 3, 1), three},
		{three, filled(3, 3, 1)},
		{one, filled(3, 5, 1)},
		{filled(3, 5, 1), one},
		{filled(2, 3, 1), filled(3, 1, 2)},
		{filled(1, 4, 1), filled(1, 4, 2)},
		{filled(1, 1, 1), filled(1, 1, 2)},
		{filled(64, 64, 1), filled(64, 1, 2)},
		{filled(0, 4, 1), filled(3, 4, 2)},
		{filled(3, 4, 1), filled(0, 4, 2)},
		{filled(3, 0, 1), filled(0, 3, 2)},
		{filled(0, 0, 1), filled(0, 0, 2)},
		{filled(64, 64, 1), filled(64, 64, 2)},
		{api.Matrix{Rows: 2, Cols: 2, Data: list(3, 1)}, filled(2, 2, 2)},
		{filled(2, 2, 2), api.Matrix{Rows: 2, Cols: 2, Data: list(5, 1)}},
		{api.Matrix{Rows: 65, Cols: 1, Data: list(65, 1)}, filled(1, 1, 2)},
	}
}

// Rule 5: what is handed in stays as it is, also where a call fails.
func TestWhatIsHandedInStays(t *testing.T) {
	for name, call := range calls() {
		for i, pair := range pairs() {
			first, second := hold(pair[0].Data), hold(pair[1].Data)
			call(pair[0], pair[1])
			if !first.same() || !second.same() {
				t.Errorf("%s of pair %d changed what it was handed", name, i)
			}
		}
	}
}

func TestListsOfRowsStay(t *testing.T) {
	rows, numbers := [][]byte{list(2, 1), list(2, 2), list(2, 3)}, []int{1, 0, 2, 9}
	first, last := hold(rows[0]), hold(rows[2])
	wantNumbers := slices.Clone(numbers)
	matrix.Of(rows[:2]...)
	matrix.Pick(filled(2, 2, 1), numbers[:2]...)
	matrix.Pick(filled(2, 2, 1), numbers...)
	if !first.same() || !last.same() || &rows[2][0] != &last.handed[0] || !slices.Equal(numbers, wantNumbers) {
		t.Error("what was handed in was changed")
	}
}

// Rule 5: one matrix may be handed in twice.
func TestOneHandedInTwice(t *testing.T) {
	for name, call := range calls() {
		for i, pair := range pairs() {
			twice := pair[0]
			before := hold(twice.Data)
			other := api.Matrix{Rows: twice.Rows, Cols: twice.Cols, Data: slices.Clone(twice.Data)}
			got, want := call(twice, twice), call(twice, other)
			if !before.same() || string(got) != string(want) {
				t.Errorf("%s of matrix %d twice = %d, want %d", name, i, got, want)
			}
		}
	}
}

// Rule 5: what is answered is new memory, with its room behind the end.
func TestAnswersAreNewMemory(t *testing.T) {
	for name, call := range calls() {
		for i, pair := range pairs() {
			first, second := hold(pair[0].Data), hold(pair[1].Data)
			answer, another := call(pair[0], pair[1]), call(pair[0], pair[1])
			third := hold(another)
			spoil(answer)
			if !first.same() || !second.same() {
				t.Errorf("%s of pair %d shares memory with what it was handed", name, i)
			}
			if !third.same() {
				t.Errorf("%s of pair %d: two answers share memory", name, i)
			}
			spoil(pair[0].Data)
			spoil(pair[1].Data)
			if !third.same() {
				t.Errorf("%s of pair %d hangs on what becomes of its arguments", name, i)
			}
		}
	}
}

func TestMadeMatricesAreNewMemory(t *testing.T) {
	for _, side := range sides() {
		zero, _ := matrix.Make(side, side)
		identity, _ := matrix.Identity(side)
		spoil(zero.Data)
		spoil(identity.Data)
		again, e := matrix.Make(side, side)
		is(t, "Make", again, e, slow(side, side, func(_, _ int) byte { return 0 }))
		unspoilt, e := matrix.Identity(side)
		is(t, "Identity", unspoilt, e, slow(side, side, func(i, j int) byte {
			if i == j {
				return 1
			}
			return 0
		}))
	}
}
