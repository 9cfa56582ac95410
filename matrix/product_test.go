package matrix_test

import (
	"bytes"
	"testing"

	"recoup/api"
	"recoup/matrix"
)

// P3.3
func TestMul(t *testing.T) {
	for _, a := range all(5) {
		for _, cols := range sides() {
			b := filled(a.Cols, cols, 6)
			got, e := matrix.Mul(a, b)
			is(t, "Mul", got, e, slowMul(a, b))
		}
	}
}

// Each product of two elements stands in one of the two.
func TestMulOfAllElements(t *testing.T) {
	for a := range 256 {
		row := slow(1, 64, func(_, j int) byte { return byte(j) })
		for from := 0; from < 256; from += 64 {
			for j := range row.Data {
				row.Data[j] = byte(from + j)
			}
			got, e := matrix.Mul(of(1, byte(a)), row)
			is(t, "Mul", got, e, slowMul(of(1, byte(a)), row))
		}
	}
}

func TestMulWithNothingBetween(t *testing.T) {
	got, e := matrix.Mul(api.Matrix{Rows: 3}, api.Matrix{Cols: 2})
	is(t, "Mul of 3 x 0 and 0 x 2", got, e, of(2, 0, 0, 0, 0, 0, 0))
	got, e = matrix.Mul(api.Matrix{Cols: 3}, filled(3, 2, 1))
	is(t, "Mul of 0 x 3 and 3 x 2", got, e, api.Matrix{Cols: 2})
	got, e = matrix.Mul(filled(3, 2, 1), api.Matrix{Rows: 2})
	is(t, "Mul of 3 x 2 and 2 x 0", got, e, api.Matrix{Rows: 3})
}

func TestMulOfOnesThatDoNotFit(t *testing.T) {
	for _, a := range all(5) {
		for _, b := range all(6) {
			if a.Cols == b.Rows {
				continue
			}
			got, e := matrix.Mul(a, b)
			fails(t, "Mul", got, e, api.ErrShape)
		}
	}
	for _, m := range wrong() {
		for _, fitting := range []api.Matrix{{}, filled(3, 3, 1), filled(64, 64, 1), m} {
			got, e := matrix.Mul(m, fitting)
			fails(t, "Mul of one that is not right, first", got, e, api.ErrShape)
			got, e = matrix.Mul(fitting, m)
			fails(t, "Mul of one that is not right, second", got, e, api.ErrShape)
		}
	}
}

func TestApply(t *testing.T) {
	for _, m := range all(7) {
		x := list(m.Cols, 8)
		column := api.Matrix{Rows: m.Cols, Cols: 1, Data: x}
		got, e := matrix.Apply(m, x)
		if e != api.OK || !bytes.Equal(got, slowMul(m, column).Data) {
			t.Errorf("Apply of %d x %d = %d, %v", m.Rows, m.Cols, got, e)
		}
		for _, length := range []int{m.Cols - 1, m.Cols + 1, m.Cols + 64} {
			if length < 0 {
				continue
			}
			if got, e := matrix.Apply(m, list(length, 8)); len(got) != 0 || e != api.ErrShape {
				t.Errorf("Apply of %d x %d to %d = %d, %v", m.Rows, m.Cols, length, got, e)
			}
		}
	}
	if got, e := matrix.Apply(api.Matrix{Rows: 3}, nil); e != api.OK || !bytes.Equal(got, []byte{0, 0, 0}) {
		t.Errorf("Apply of 3 x 0 = %d, %v", got, e)
	}
}

func TestApplyOfOnesThatAreNotRight(t *testing.T) {
	for _, m := range wrong() {
		for _, length := range []int{0, 1, 2, 3, 64, 65} {
			if got, e := matrix.Apply(m, list(length, 1)); len(got) != 0 || e != api.ErrShape {
				t.Errorf("Apply of %d rows, %d columns to %d = %d, %v", m.Rows, m.Cols, length, got, e)
			}
		}
	}
}

func TestProductsOfExamples(t *testing.T) {
	m, e := matrix.Mul(of(2, 1, 2, 0, 1), of(2, 1, 0, 3, 1))
	is(t, "Mul(1 2 / 0 1, 1 0 / 3 1)", m, e, of(2, 7, 2, 3, 1))
	m, e = matrix.Mul(of(2, 1, 2), of(2, 1, 2))
	fails(t, "Mul(1 2, 1 2)", m, e, api.ErrShape)
	if x, e := matrix.Apply(of(2, 1, 2, 0, 1), []byte{5, 3}); e != api.OK || !bytes.Equal(x, []byte{3, 3}) {
		t.Errorf("Apply(1 2 / 0 1, 5 3) = %d, %v", x, e)
	}
	if x, e := matrix.Apply(api.Matrix{Cols: 2}, []byte{5, 3}); e != api.OK || len(x) != 0 {
		t.Errorf("Apply(of no rows and two columns, 5 3) = %d, %v", x, e)
	}
}
