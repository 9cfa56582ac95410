package shape

import (
	"slices"

	"recoup/api"
	"recoup/gauss"
	"recoup/matrix"
	"recoup/subset"
)

// rows are those of a matrix that is right.
type rows struct {
	api.Matrix
}

// noughts are rows for sides that are in their bounds.
func noughts(count, cols int) rows {
	made, _ := matrix.Make(count, cols)
	return rows{made}
}

// row is the row i as it stands in the matrix: to be read, or to be written
// where the matrix is the package's own.
func (r rows) row(i int) []byte {
	from, to := i*r.Cols, (i+1)*r.Cols
	return r.Data[from:to:to]
}

// lay writes other rows where their first entry comes to (top, left).
func (r rows) lay(other rows, top, left int) {
	for i := range other.Rows {
		copy(r.row(top + i)[left:], other.row(i))
	}
}

// allHang asks of each group whether it hangs together.
func (r rows) allHang(groups []api.Set) bool {
	// There may be many groups and few that differ.
	once := slices.Compact(slices.Sorted(slices.Values(groups)))
	for _, group := range once {
		if !r.hang(group) {
			return false
		}
	}
	return true
}

// hang asks whether the group has only numbers of rows, each of them being a
// combination of the others.
func (r rows) hang(group api.Set) bool {
	members := subset.List(group)
	picked, e := matrix.Pick(r.Matrix, members...)
	if e != api.OK {
		return false
	}
	turned, _ := matrix.Transpose(picked)
	kernel, _ := gauss.Kernel(turned)
	// The kernel's rows are factors by which the members come to 0: a member
	// that has one there that is not 0 is a combination of the others.
	factors := rows{kernel}
	for j := range members {
		if factors.allNought(j) {
			return false
		}
	}
	return true
}

// allNought asks whether the column j is all 0.
func (r rows) allNought(j int) bool {
	for i := range r.Rows {
		if r.row(i)[j] != 0 {
			return false
		}
	}
	return true
}
