package matrix_test

import (
	"fmt"
	"math"
	"testing"

	"recoup/api"
	"recoup/matrix"
)

func slowKron(a, b api.Matrix) api.Matrix {
	return slow(a.Rows*b.Rows, a.Cols*b.Cols, func(i, j int) byte {
		return slowTimes(entry(a, i/b.Rows, j/b.Cols), entry(b, i%b.Rows, j%b.Cols))
	})
}

// P3.4
func TestTranspose(t *testing.T) {
	for _, m := range all(1) {
		got, e := matrix.Transpose(m)
		is(t, "Transpose", got, e, slow(m.Cols, m.Rows, func(i, j int) byte { return entry(m, j, i) }))
	}
	for _, m := range wrong() {
		got, e := matrix.Transpose(m)
		fails(t, "Transpose", got, e, api.ErrShape)
	}
}

func TestPick(t *testing.T) {
	for _, m := range all(2) {
		for _, count := range sides() {
			if m.Rows == 0 && count > 0 {
				continue
			}
			named := make([]int, count)
			for i := range named {
				named[i] = (i*i + 5*i + 6) % m.Rows
			}
			got, e := matrix.Pick(m, named...)
			is(t, "Pick", got, e, slow(count, m.Cols, func(i, j int) byte { return entry(m, named[i], j) }))
		}
	}
	got, e := matrix.Pick(filled(5, 3, 1))
	is(t, "Pick of no row", got, e, api.Matrix{Cols: 3})
}

func TestPickOfRowsThatAreNotThere(t *testing.T) {
	for _, m := range all(2) {
		for _, missing := range []int{-1, m.Rows, m.Rows + 1, math.MinInt, math.MaxInt} {
			for name, named := range map[string][]int{
				"alone":              {missing},
				"last":               append(make([]int, min(m.Rows, 3)), missing),
				"behind a limit":     append(make([]int, 65), missing),
				"ahead of a limit":   append([]int{missing}, make([]int, 65)...),
				"as the first of 64": append([]int{missing}, make([]int, 63)...),
			} {
				got, e := matrix.Pick(m, named...)
				fails(t, fmt.Sprintf("Pick of %d rows: %d %s", m.Rows, missing, name), got, e, api.ErrArg)
			}
		}
	}
}

func TestPickOfTooMany(t *testing.T) {
	for _, count := range []int{65, 66, 128, 5000} {
		for _, m := range []api.Matrix{filled(1, 2, 1), filled(64, 64, 1), {Rows: 3}} {
			got, e := matrix.Pick(m, make([]int, count)...)
			fails(t, "Pick", got, e, api.ErrLimit)
		}
	}
	for _, m := range wrong() {
		for _, named := range [][]int{nil, {0}, {-1}, {64}, make([]int, 65)} {
			got, e := matrix.Pick(m, named...)
			fails(t, "Pick of one that is not right", got, e, api.ErrShape)
		}
	}
}

func TestStack(t *testing.T) {
	for _, a := range all(3) {
		for _, b := range all(4) {
			got, e := matrix.Stack(a, b)
			switch {
			case a.Cols != b.Cols:
				fails(t, "Stack", got, e, api.ErrShape)
			case a.Rows+b.Rows > 64:
				fails(t, "Stack", got, e, api.ErrLimit)
			default:
				is(t, "Stack", got, e, slow(a.Rows+b.Rows, a.Cols, func(i, j int) byte {
					if i < a.Rows {
						return entry(a, i, j)
					}
					return entry(b, i-a.Rows, j)
				}))
			}
		}
	}
	for _, m := range wrong() {
		for _, other := range []api.Matrix{{}, filled(3, 3, 1), filled(64, 64, 1), filled(64, 1, 1), m} {
			got, e := matrix.Stack(m, other)
			fails(t, "Stack of one that is not right, first", got, e, api.ErrShape)
			got, e = matrix.Stack(other, m)
			fails(t, "Stack of one that is not right, second", got, e, api.ErrShape)
		}
	}
}

func TestStackAtTheLimit(t *testing.T) {
	for rows := range 64 {
		got, e := matrix.Stack(filled(rows, 2, 1), filled(64-rows, 2, 2))
		if e != api.OK || got.Rows != 64 || got.Cols != 2 || len(got.Data) != 128 {
			t.Errorf("Stack of %d and %d rows = %v, %v", rows, 64-rows, got, e)
		}
		got, e = matrix.Stack(filled(rows+1, 2, 1), filled(64-rows, 2, 2))
		fails(t, "Stack of 65 rows", got, e, api.ErrLimit)
		got, e = matrix.Stack(api.Matrix{Rows: 64 - rows}, api.Matrix{Rows: rows + 1})
		fails(t, "Stack of 65 rows without columns", got, e, api.ErrLimit)
	}
}

func TestKron(t *testing.T) {
	for _, a := range all(5) {
		for _, b := range all(6) {
			got, e := matrix.Kron(a, b)
			if a.Rows*b.Rows > 64 || a.Cols*b.Cols > 64 {
				fails(t, "Kron", got, e, api.ErrLimit)
			} else {
				is(t, "Kron", got, e, slowKron(a, b))
			}
		}
	}
	for _, m := range wrong() {
		for _, other := range []api.Matrix{{}, filled(1, 1, 1), filled(64, 64, 1), m} {
			got, e := matrix.Kron(m, other)
			fails(t, "Kron of one that is not right, first", got, e, api.ErrShape)
			got, e = matrix.Kron(other, m)
			fails(t, "Kron of one that is not right, second", got, e, api.ErrShape)
		}
	}
}

func TestKronAtTheLimit(t *testing.T) {
	for _, c := range []struct {
		a, b api.Matrix
		want api.Errno
	}{
		{filled(8, 4, 1), filled(8, 16, 2), api.OK},
		{filled(4, 8, 1), filled(16, 8, 2), api.OK},
		{filled(5, 3, 1), filled(13, 1, 2), api.ErrLimit},
		{filled(3, 5, 1), filled(1, 13, 2), api.ErrLimit},
		{filled(9, 9, 1), filled(8, 8, 2), api.ErrLimit},
		// No rows, or no columns: the other side is beyond the limit yet.
		{api.Matrix{Cols: 9}, filled(8, 8, 2), api.ErrLimit},
		{filled(8, 8, 2), api.Matrix{Rows: 9}, api.ErrLimit},
		{api.Matrix{Rows: 64}, api.Matrix{Rows: 2}, api.ErrLimit},
		{api.Matrix{Cols: 8}, filled(8, 8, 2), api.OK},
		{api.Matrix{Rows: 64}, api.Matrix{Cols: 64}, api.OK},
	} {
		got, e := matrix.Kron(c.a, c.b)
		if c.want == api.OK {
			is(t, "Kron", got, e, slowKron(c.a, c.b))
		} else {
			fails(t, "Kron", got, e, c.want)
		}
	}
}

func TestLaidOfExamples(t *testing.T) {
	a := of(2, 1, 2, 3, 4)
	m, e := matrix.Transpose(a)
	is(t, "Transpose(1 2 / 3 4)", m, e, of(2, 1, 3, 2, 4))
	m, e = matrix.Pick(a, 1, 1)
	is(t, "Pick(1 2 / 3 4, 1, 1)", m, e, of(2, 3, 4, 3, 4))
	m, e = matrix.Pick(of(2, 1, 2), 1)
	fails(t, "Pick(1 2, 1)", m, e, api.ErrArg)
	m, e = matrix.Stack(of(2, 1, 2), of(2, 3, 4))
	is(t, "Stack(1 2, 3 4)", m, e, a)
	m, e = matrix.Kron(of(2, 1, 2), of(2, 1, 3))
	is(t, "Kron(1 2, 1 3)", m, e, of(4, 1, 3, 2, 6))
	nine, _ := matrix.Identity(9)
	eight, _ := matrix.Identity(8)
	m, e = matrix.Kron(nine, eight)
	fails(t, "Kron(Identity(9), Identity(8))", m, e, api.ErrLimit)
}
