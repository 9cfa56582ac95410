package matrix

import (
	"recoup/api"
	"recoup/field"
)

// Mul is the matrix of the Dots of a's rows and b's columns.
func Mul(a, b api.Matrix) (api.Matrix, api.Errno) {
	if !allRight(a, b) || a.Cols != b.Rows {
		return api.Matrix{}, api.ErrShape
	}
	product := noughts(a.Rows, b.Cols)
	for i := range a.Rows {
		copy(rowOf(product, i), combination(rowOf(a, i), b))
	}
	return product, api.OK
}

// Apply is the list of the Dots of m's rows and x.
func Apply(m api.Matrix, x []byte) ([]byte, api.Errno) {
	if !Right(m) || len(x) != m.Cols {
		return nil, api.ErrShape
	}
	dots := make([]byte, m.Rows)
	for i := range m.Rows {
		dots[i], _ = field.Dot(rowOf(m, i), x)
	}
	return dots, api.OK
}

// combination is the sum of m's rows, each times its factor: in it stand the
// Dots of the factors and each column of m, without a column being gone
// through. Factors that are 0 are many, in generators above all.
func combination(factors []byte, m api.Matrix) []byte {
	sum := make([]byte, m.Cols)
	for j := range m.Rows {
		if factors[j] != 0 {
			sum, _ = field.Mac(sum, factors[j], rowOf(m, j))
		}
	}
	return sum
}
