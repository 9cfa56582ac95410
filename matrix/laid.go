package matrix

import (
	"recoup/api"
	"recoup/field"
)

// Transpose is the matrix whose rows are m's columns.
func Transpose(m api.Matrix) (api.Matrix, api.Errno) {
	if !Right(m) {
		return api.Matrix{}, api.ErrShape
	}
	turned := noughts(m.Cols, m.Rows)
	for j := range m.Cols {
		row := rowOf(turned, j)
		for i := range m.Rows {
			row[i] = rowOf(m, i)[j]
		}
	}
	return turned, api.OK
}

// Pick is the matrix of the rows of m that are named.
func Pick(m api.Matrix, rows ...int) (api.Matrix, api.Errno) {
	if !Right(m) {
		return api.Matrix{}, api.ErrShape
	}
	for _, i := range rows {
		if !hasRow(m, i) {
			return api.Matrix{}, api.ErrArg
		}
	}
	if !isSide(len(rows)) {
		return api.Matrix{}, api.ErrLimit
	}
	picked := noughts(len(rows), m.Cols)
	for i := range picked.Rows {
		copy(rowOf(picked, i), rowOf(m, rows[i]))
	}
	return picked, api.OK
}

// Stack is the matrix of a's rows and b's behind them.
func Stack(a, b api.Matrix) (api.Matrix, api.Errno) {
	if !allRight(a, b) || a.Cols != b.Cols {
		return api.Matrix{}, api.ErrShape
	}
	if !isSide(a.Rows + b.Rows) {
		return api.Matrix{}, api.ErrLimit
	}
	return ofRows(a.Cols, append(rowsOf(a), rowsOf(b)...)...), api.OK
}

// Kron is the matrix that has in the place of each entry of a that entry times
// b.
func Kron(a, b api.Matrix) (api.Matrix, api.Errno) {
	if !allRight(a, b) {
		return api.Matrix{}, api.ErrShape
	}
	if !isSide(a.Rows*b.Rows) || !isSide(a.Cols*b.Cols) {
		return api.Matrix{}, api.ErrLimit
	}
	product := noughts(a.Rows*b.Rows, a.Cols*b.Cols)
	for i := range a.Rows {
		for k := range b.Rows {
			fillMultiples(rowOf(product, i*b.Rows+k), rowOf(a, i), rowOf(b, k))
		}
	}
	return product, api.OK
}

// fillMultiples fills row by the multiples of list, one by each factor.
func fillMultiples(row, factors, list []byte) {
	for j := range len(factors) {
		copy(piece(row, len(list), j), field.Scale(factors[j], list))
	}
}

// rowsOf are m's own rows: to be read.
func rowsOf(m api.Matrix) [][]byte {
	rows := make([][]byte, m.Rows)
	for i := range m.Rows {
		rows[i] = rowOf(m, i)
	}
	return rows
}
