package gauss

import (
	"bytes"
	"slices"

	"recoup/api"
	"recoup/field"
)

// reduction is a matrix on the way to its reduced form: its rows, the columns
// of the pivots that have been found, and what does a change to the rows and to
// those that stand beside them. The rows beside are lists of their own, not
// further columns: so MaxSide is not in their way.
type reduction struct {
	rows   [][]byte
	cols   int
	pivots []int
	do     func(change)
}

// change does something to rows that it knows by their places in a list.
type change func(rows [][]byte)

// start takes a copy of m, which is right; the lists beside have as many rows
// as m, and are changed as m's rows are.
func start(m api.Matrix, beside ...[][]byte) *reduction {
	rows := rowsOf(m)
	return &reduction{rows: rows, cols: m.Cols, do: onto(append(beside, rows)...)}
}

// onto tells a function that does a change to each of these lists.
func onto(lists ...[][]byte) func(change) {
	return func(step change) {
		for _, rows := range lists {
			step(rows)
		}
	}
}

// descend finds the pivots: behind it each row's first entry that is not 0 is
// 1 and stands behind those of the rows above, and rows of noughts are last.
func (r *reduction) descend() {
	i, j := r.nextPivot(0)
	for j < r.cols {
		top := len(r.pivots)
		r.pivots = append(r.pivots, j)
		if i != top {
			r.do(exchange(top, i))
		}
		if first := r.rows[top][j]; first != 1 {
			inverse, _ := field.Inv(first)
			r.do(multiply(top, inverse))
		}
		r.clearColumn(top, top+1, len(r.rows))
		i, j = r.nextPivot(j + 1)
	}
}

// ascend makes each pivot the only entry in its column, behind descend. The
// last pivot comes first: so the row of each pivot is done when it is put to
// the rows above.
func (r *reduction) ascend() {
	for at := len(r.pivots) - 1; at > 0; at-- {
		r.clearColumn(at, 0, at)
	}
}

// nextPivot finds one more pivot, in the columns from this one on and the rows
// that have none yet: the first column with an entry that is not 0, and the
// first row with it there. Where there is none the column is past the last.
func (r *reduction) nextPivot(from int) (i, j int) {
search:
	for j = from; j < r.cols; j++ {
		for i = len(r.pivots); i < len(r.rows); i++ {
			if r.rows[i][j] != 0 {
				break search
			}
		}
	}
	return i, j
}

// clearColumn makes the rows from one place to ahead of another one 0 in the
// column of the pivot of the row at.
func (r *reduction) clearColumn(at, from, to int) {
	j := r.pivots[at]
	for i := from; i < to; i++ {
		if factor := r.rows[i][j]; factor != 0 {
			r.do(put(i, factor, at))
		}
	}
}

// exchange changes the slices alone: what they are slices of stays.
func exchange(i, k int) change {
	return func(rows [][]byte) {
		rows[i], rows[k] = rows[k], rows[i]
	}
}

func multiply(i int, factor byte) change {
	return func(rows [][]byte) {
		copy(rows[i], field.Scale(factor, rows[i]))
	}
}

// put puts the multiple of the row k to the row i.
func put(i int, factor byte, k int) change {
	return func(rows [][]byte) {
		sum, _ := field.Mac(rows[i], factor, rows[k])
		copy(rows[i], sum)
	}
}

// freeColumns are those in which no pivot stands, rising.
func freeColumns(cols int, pivots []int) []int {
	var free []int
	for j := range cols {
		if !slices.Contains(pivots, j) {
			free = append(free, j)
		}
	}
	return free
}

// rowsOf are the rows of a copy of m, slices of one list.
func rowsOf(m api.Matrix) [][]byte {
	list := bytes.Clone(m.Data)
	rows := make([][]byte, m.Rows)
	for i := range rows {
		from, to := i*m.Cols, (i+1)*m.Cols
		rows[i] = list[from:to:to]
	}
	return rows
}

// ofRows takes the number of columns besides, for there may be no rows that
// would tell it.
func ofRows(rows [][]byte, cols int) api.Matrix {
	return api.Matrix{Rows: len(rows), Cols: cols, Data: bytes.Join(rows, nil)}
}
