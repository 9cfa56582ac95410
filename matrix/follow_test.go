package matrix_test

import (
	"bytes"
	"testing"

	"recoup/api"
	"recoup/matrix"
)

// must is for calls that answer no error.
func must(t *testing.T) func(m api.Matrix, e api.Errno) api.Matrix {
	return func(m api.Matrix, e api.Errno) api.Matrix {
		t.Helper()
		if e != api.OK {
			t.Fatal(e)
		}
		return m
	}
}

// fours are sides of chains of matrices.
func fours() [][4]int {
	return [][4]int{{1, 1, 1, 1}, {2, 3, 4, 5}, {5, 4, 3, 2}, {1, 7, 1, 7}, {0, 3, 2, 1}, {3, 0, 2, 4}, {3, 2, 0, 4}, {3, 2, 4, 0}, {0, 0, 0, 0}, {64, 63, 64, 64}}
}

// P3.5
func TestProductsGroupedInEitherWay(t *testing.T) {
	ok := must(t)
	for _, n := range fours() {
		a, b, c := filled(n[0], n[1], 1), filled(n[1], n[2], 2), filled(n[2], n[3], 3)
		left := ok(matrix.Mul(ok(matrix.Mul(a, b)), c))
		right := ok(matrix.Mul(a, ok(matrix.Mul(b, c))))
		if !matrix.Same(left, right) {
			t.Errorf("the product of sides %d", n)
		}
	}
}

func TestTransposeOfAProduct(t *testing.T) {
	ok := must(t)
	for _, n := range fours() {
		a, b := filled(n[0], n[1], 4), filled(n[1], n[2], 5)
		whole := ok(matrix.Transpose(ok(matrix.Mul(a, b))))
		turned := ok(matrix.Mul(ok(matrix.Transpose(b)), ok(matrix.Transpose(a))))
		if !matrix.Same(whole, turned) {
			t.Errorf("Transpose of the product of sides %d", n)
		}
	}
	for _, m := range all(6) {
		if twice := ok(matrix.Transpose(ok(matrix.Transpose(m)))); !matrix.Same(twice, m) {
			t.Errorf("%d x %d transposed twice", m.Rows, m.Cols)
		}
	}
}

func TestApplyOfAProduct(t *testing.T) {
	ok := must(t)
	for _, n := range fours() {
		a, b, x := filled(n[0], n[1], 7), filled(n[1], n[2], 8), list(n[2], 9)
		whole, e := matrix.Apply(ok(matrix.Mul(a, b)), x)
		inner, e1 := matrix.Apply(b, x)
		outer, e2 := matrix.Apply(a, inner)
		if e != api.OK || e1 != api.OK || e2 != api.OK || !bytes.Equal(whole, outer) {
			t.Errorf("Apply of the product of sides %d = %d, want %d", n, whole, outer)
		}
	}
}

func TestKronOfProducts(t *testing.T) {
	ok := must(t)
	for _, n := range fours()[:9] {
		for _, k := range [][3]int{{1, 1, 1}, {2, 3, 2}, {8, 8, 8}, {0, 2, 3}, {3, 0, 2}, {2, 3, 0}} {
			a, b := filled(n[0], n[1], 1), filled(n[1], n[2], 2)
			c, d := filled(k[0], k[1], 3), filled(k[1], k[2], 4)
			whole := ok(matrix.Kron(ok(matrix.Mul(a, b)), ok(matrix.Mul(c, d))))
			parted := ok(matrix.Mul(ok(matrix.Kron(a, c)), ok(matrix.Kron(b, d))))
			if !matrix.Same(whole, parted) {
				t.Errorf("Kron of products of sides %d and %d", n, k)
			}
		}
	}
}

func TestWhatAnswersTheMatrixItself(t *testing.T) {
	ok := must(t)
	for _, m := range all(9) {
		every := make([]int, m.Rows)
		for i := range every {
			every[i] = i
		}
		left, right := ok(matrix.Identity(m.Rows)), ok(matrix.Identity(m.Cols))
		for name, got := range map[string]api.Matrix{
			"Pick of all rows":            ok(matrix.Pick(m, every...)),
			"Mul with the identity":       ok(matrix.Mul(m, right)),
			"Mul of the identity with it": ok(matrix.Mul(left, m)),
		} {
			if !matrix.Same(got, m) {
				t.Errorf("%s, %d x %d = %v", name, m.Rows, m.Cols, got)
			}
		}
	}
}
