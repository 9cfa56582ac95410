package gauss_test

import (
	"testing"

	"recoup/api"
	"recoup/gauss"
)

// P4.4
func TestSolve(t *testing.T) {
	for _, k := range allKnown(7) {
		from := seeded(8)
		for range 3 {
			want := withNoughts(k.m.Cols, k.pivots, from)
			x, ok, e := gauss.Solve(k.m, slowApply(k.m, want))
			tells(t, "Solve", x, ok, e, want)
		}
	}
}

// mix sends to b what is not 0 behind the rows of the reduced matrix that have
// pivots; m sends nothing to such a b.
func TestSolveOfWhatNothingIsSentTo(t *testing.T) {
	for _, k := range allKnown(9) {
		from := seeded(10)
		for at := len(k.pivots); at < k.m.Rows; at += 1 + k.m.Rows/4 {
			behind := list(k.m.Rows, 11)
			for i := len(k.pivots); i < k.m.Rows; i++ {
				behind[i] = 0
			}
			behind[at] = from.notZero()
			x, ok, e := gauss.Solve(k.m, slowApply(k.mix, behind))
			tellsNothing(t, "Solve", x, ok, e, api.OK)
		}
	}
}

func TestSolveOfNoughts(t *testing.T) {
	for _, rows := range sides() {
		for _, cols := range sides() {
			for _, m := range []api.Matrix{filled(rows, cols, 1), noughts(rows, cols)} {
				x, ok, e := gauss.Solve(m, make([]byte, rows))
				tells(t, "Solve of noughts", x, ok, e, make([]byte, cols))
			}
		}
	}
}

func TestSolveOfExamples(t *testing.T) {
	x, ok, e := gauss.Solve(of(2, 1, 2, 0, 0), []byte{5, 0})
	tells(t, "Solve(1 2 / 0 0, 5 0)", x, ok, e, []byte{5, 0})
	x, ok, e = gauss.Solve(of(2, 1, 2, 0, 0), []byte{5, 1})
	tellsNothing(t, "Solve(1 2 / 0 0, 5 1)", x, ok, e, api.OK)
	x, ok, e = gauss.Solve(of(2, 0, 1), []byte{7})
	tells(t, "Solve(0 1, 7)", x, ok, e, []byte{0, 7})
	x, ok, e = gauss.Solve(of(2, 0, 1, 1, 0), []byte{7, 9})
	tells(t, "Solve(0 1 / 1 0, 7 9)", x, ok, e, []byte{9, 7})
	x, ok, e = gauss.Solve(api.Matrix{Cols: 2}, nil)
	tells(t, "Solve of no rows", x, ok, e, []byte{0, 0})
	x, ok, e = gauss.Solve(api.Matrix{Rows: 2}, []byte{0, 0})
	tells(t, "Solve of no columns, 0 0", x, ok, e, nil)
	x, ok, e = gauss.Solve(api.Matrix{Rows: 2}, []byte{0, 1})
	tellsNothing(t, "Solve of no columns, 0 1", x, ok, e, api.OK)
	x, ok, e = gauss.Solve(api.Matrix{}, nil)
	tells(t, "Solve of no rows and no columns", x, ok, e, nil)
}

func TestSolveOfOnesThatDoNotFit(t *testing.T) {
	for _, rows := range sides() {
		for _, cols := range sides() {
			for _, length := range otherLengths(rows) {
				x, ok, e := gauss.Solve(filled(rows, cols, 1), list(length, 2))
				tellsNothing(t, "Solve of another length", x, ok, e, api.ErrShape)
				x, ok, e = gauss.Solve(noughts(rows, cols), make([]byte, length))
				tellsNothing(t, "Solve of noughts of another length", x, ok, e, api.ErrShape)
			}
		}
	}
	for _, m := range wrong() {
		for _, length := range []int{0, 1, 2, 3, 63, 64, 65} {
			x, ok, e := gauss.Solve(m, list(length, 1))
			tellsNothing(t, "Solve of one that is not right", x, ok, e, api.ErrShape)
		}
	}
}

// wantKernel is read off the reduced matrix: what is 1 at a free column must be
// that column's entries at the pivots.
func wantKernel(k known) api.Matrix {
	return slow(len(k.free), k.m.Cols, func(n, j int) byte {
		if j == k.free[n] {
			return 1
		}
		for i, pivot := range k.pivots {
			if j == pivot {
				return entry(k.reduced, i, k.free[n])
			}
		}
		return 0
	})
}

func TestKernel(t *testing.T) {
	for seed := range 2 {
		for _, k := range allKnown(seed + 12) {
			got, e := gauss.Kernel(k.m)
			is(t, "Kernel", got, e, wantKernel(k))
			is(t, "m times its Kernel", slowMul(k.m, turned(got)), e, noughts(k.m.Rows, got.Rows))
		}
	}
}

func TestKernelOfNoughts(t *testing.T) {
	for _, rows := range sides() {
		for _, cols := range sides() {
			got, e := gauss.Kernel(noughts(rows, cols))
			is(t, "Kernel of noughts", got, e, identity(cols))
		}
	}
}

func TestKernelOfExamples(t *testing.T) {
	m, e := gauss.Kernel(of(3, 1, 2, 3))
	is(t, "Kernel(1 2 3)", m, e, of(3, 2, 1, 0, 3, 0, 1))
	m, e = gauss.Kernel(of(2, 1, 0, 0, 1))
	is(t, "Kernel(1 0 / 0 1)", m, e, api.Matrix{Cols: 2})
	m, e = gauss.Kernel(api.Matrix{Cols: 2})
	is(t, "Kernel of no rows and 2 columns", m, e, of(2, 1, 0, 0, 1))
	m, e = gauss.Kernel(api.Matrix{Rows: 2})
	is(t, "Kernel of 2 rows and no columns", m, e, api.Matrix{})
	m, e = gauss.Kernel(of(4, 0, 2, 0, 4, 0, 0, 0, 0))
	is(t, "Kernel(0 2 0 4 / 0 0 0 0)", m, e, of(4, 1, 0, 0, 0, 0, 0, 1, 0, 0, 2, 0, 1))
}

func TestKernelOfOnesThatAreNotRight(t *testing.T) {
	for _, wrong := range wrong() {
		m, e := gauss.Kernel(wrong)
		fails(t, "Kernel", m, e, api.ErrShape)
	}
}
