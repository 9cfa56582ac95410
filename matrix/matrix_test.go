package matrix_test

import (
	"bytes"
	"fmt"
	"math"
	"testing"

	"recoup/api"
	"recoup/matrix"
)

// P3.1
func TestRight(t *testing.T) {
	for _, m := range all(1) {
		if !matrix.Right(m) {
			t.Errorf("%d rows, %d columns: not right", m.Rows, m.Cols)
		}
	}
	for _, m := range wrong() {
		if matrix.Right(m) {
			t.Errorf("%d rows, %d columns, %d elements: right", m.Rows, m.Cols, len(m.Data))
		}
	}
	if !matrix.Right(api.Matrix{}) || !matrix.Right(api.Matrix{Rows: 3}) || !matrix.Right(api.Matrix{Cols: 3, Data: []byte{}}) {
		t.Error("a matrix without elements is not right")
	}
}

func TestMake(t *testing.T) {
	for _, rows := range sides() {
		for _, cols := range sides() {
			m, e := matrix.Make(rows, cols)
			is(t, "Make", m, e, slow(rows, cols, func(_, _ int) byte { return 0 }))
		}
	}
	for _, n := range beyond() {
		for _, side := range append(sides(), beyond()...) {
			m, e := matrix.Make(n, side)
			fails(t, fmt.Sprintf("Make(%d, %d)", n, side), m, e, api.ErrArg)
			m, e = matrix.Make(side, n)
			fails(t, fmt.Sprintf("Make(%d, %d)", side, n), m, e, api.ErrArg)
		}
	}
}

func TestIdentity(t *testing.T) {
	for n := range api.MaxSide + 1 {
		m, e := matrix.Identity(n)
		is(t, "Identity", m, e, slow(n, n, func(i, j int) byte {
			if i == j {
				return 1
			}
			return 0
		}))
	}
	for _, n := range beyond() {
		m, e := matrix.Identity(n)
		fails(t, fmt.Sprintf("Identity(%d)", n), m, e, api.ErrArg)
	}
}

// cut is m's rows, each a list of its own.
func cut(m api.Matrix) [][]byte {
	var rows [][]byte
	for i := range m.Rows {
		rows = append(rows, bytes.Clone(m.Data[i*m.Cols:(i+1)*m.Cols]))
	}
	return rows
}

func TestOf(t *testing.T) {
	for _, m := range all(2) {
		got, e := matrix.Of(cut(m)...)
		if m.Rows == 0 { // no row tells how many columns there are
			m.Cols = 0
		}
		is(t, "Of", got, e, m)
	}
	m, e := matrix.Of()
	is(t, "Of()", m, e, api.Matrix{})
	m, e = matrix.Of(nil, []byte{}, nil)
	is(t, "Of three empty rows", m, e, api.Matrix{Rows: 3})
}

func TestOfRowsThatMayNotBe(t *testing.T) {
	short, long := list(64, 1), list(65, 1)
	many := make([][]byte, 64)
	for i := range many {
		many[i] = short
	}
	for name, c := range map[string]struct {
		rows [][]byte
		want api.Errno
	}{
		"two lengths":                  {[][]byte{{1, 2}, {3}}, api.ErrShape},
		"a longer row last":            {[][]byte{{1}, {2}, {3, 4}}, api.ErrShape},
		"an empty row first":           {[][]byte{nil, {3}}, api.ErrShape},
		"an empty row last":            {[][]byte{{3}, nil}, api.ErrShape},
		"as many elements in all":      {[][]byte{{1}, {2, 3, 4}, {5, 6}}, api.ErrShape},
		"a row too many":               {append(many[:64:64], short), api.ErrLimit},
		"a row too many, all empty":    {make([][]byte, 65), api.ErrLimit},
		"very many rows":               {make([][]byte, 5000), api.ErrLimit},
		"a column too many":            {[][]byte{long}, api.ErrLimit},
		"a column too many, twice":     {[][]byte{long, long}, api.ErrLimit},
		"a row too many, and lengths":  {append(many[:64:64], long), api.ErrShape},
		"columns too many and lengths": {[][]byte{long, short}, api.ErrShape},
	} {
		m, e := matrix.Of(c.rows...)
		fails(t, "Of: "+name, m, e, c.want)
	}
	m, e := matrix.Of(many...)
	is(t, "Of as many as may be", m, e, slow(64, 64, func(_, j int) byte { return short[j] }))
}

func TestMadeOfExamples(t *testing.T) {
	m, e := matrix.Make(1, 2)
	is(t, "Make(1, 2)", m, e, of(2, 0, 0))
	m, e = matrix.Make(0, 64)
	is(t, "Make(0, 64)", m, e, api.Matrix{Cols: 64})
	m, e = matrix.Identity(2)
	is(t, "Identity(2)", m, e, of(2, 1, 0, 0, 1))
	m, e = matrix.Of([]byte{1, 2}, []byte{3, 4})
	is(t, "Of(1 2, 3 4)", m, e, of(2, 1, 2, 3, 4))
}

// P3.2
func TestRow(t *testing.T) {
	for _, m := range all(3) {
		for i := range m.Rows {
			got, e := matrix.Row(m, i)
			if e != api.OK || !bytes.Equal(got, m.Data[i*m.Cols:(i+1)*m.Cols]) {
				t.Errorf("Row %d of %d = %d, %v", i, m.Rows, got, e)
			}
		}
		for _, i := range []int{-1, m.Rows, m.Rows + 1, math.MinInt, math.MaxInt} {
			if got, e := matrix.Row(m, i); len(got) != 0 || e != api.ErrArg {
				t.Errorf("Row %d of %d = %d, %v", i, m.Rows, got, e)
			}
		}
	}
	if got, e := matrix.Row(of(2, 1, 2, 3, 4), 1); e != api.OK || !bytes.Equal(got, []byte{3, 4}) {
		t.Errorf("Row(1 2 / 3 4, 1) = %d, %v", got, e)
	}
}

func TestRowOfOnesThatAreNotRight(t *testing.T) {
	for _, m := range wrong() {
		for _, i := range []int{-1, 0, 1, 9, math.MinInt, math.MaxInt} {
			if got, e := matrix.Row(m, i); len(got) != 0 || e != api.ErrShape {
				t.Errorf("Row %d of %d rows, %d columns = %d, %v", i, m.Rows, m.Cols, got, e)
			}
		}
	}
}

func TestSame(t *testing.T) {
	first, second := all(4), all(4)
	for i, a := range first {
		for k, b := range second {
			if matrix.Same(a, b) != (i == k) {
				t.Errorf("Same of %d x %d and %d x %d", a.Rows, a.Cols, b.Rows, b.Cols)
			}
		}
		for _, at := range []int{0, len(a.Data) / 2, len(a.Data) - 1} {
			if len(a.Data) == 0 {
				continue
			}
			other := api.Matrix{Rows: a.Rows, Cols: a.Cols, Data: bytes.Clone(a.Data)}
			other.Data[at] ^= 1
			if matrix.Same(a, other) || matrix.Same(other, a) {
				t.Errorf("Same of %d x %d, another element at %d", a.Rows, a.Cols, at)
			}
		}
	}
	if matrix.Same(of(1, 1, 2), of(2, 1, 2)) || !matrix.Same(api.Matrix{}, api.Matrix{Data: []byte{}}) {
		t.Error("Same goes by something else than sides and entries")
	}
}

func TestSameOfOnesThatAreNotRight(t *testing.T) {
	for _, m := range wrong() {
		if matrix.Same(m, m) || matrix.Same(m, api.Matrix{}) || matrix.Same(api.Matrix{}, m) {
			t.Errorf("Same of %d rows, %d columns, %d elements", m.Rows, m.Cols, len(m.Data))
		}
	}
}
