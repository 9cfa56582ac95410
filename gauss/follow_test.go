package gauss_test

import (
	"bytes"
	"testing"

	"recoup/api"
	"recoup/gauss"
)

// rankOf is for matrices that are right.
func rankOf(t *testing.T, m api.Matrix) int {
	t.Helper()
	rank, e := gauss.Rank(m)
	if e != api.OK {
		t.Fatal(e)
	}
	return rank
}

// some are matrices of all sides, of some ranks and of any one.
func some(seed int) []api.Matrix {
	var all []api.Matrix
	for _, k := range allKnown(seed) {
		all = append(all, k.m)
	}
	for _, rows := range sides() {
		for _, cols := range sides() {
			all = append(all, filled(rows, cols, seed))
		}
	}
	return all
}

// P4.5
func TestRankIsToldInManyWays(t *testing.T) {
	for _, m := range some(14) {
		rank := rankOf(t, m)
		_, pivots, e := gauss.Reduce(m)
		first, e1 := gauss.First(m)
		kernel, e2 := gauss.Kernel(m)
		if e != api.OK || e1 != api.OK || e2 != api.OK {
			t.Fatal(e, e1, e2)
		}
		if other := rankOf(t, turned(m)); rank != other {
			t.Errorf("the rank of %d x %d is %d, transposed %d", m.Rows, m.Cols, rank, other)
		}
		if rank != len(pivots) || rank != len(first) || rank+kernel.Rows != m.Cols {
			t.Errorf("%d x %d: rank %d, %d pivots, %d rows first, %d rows of the kernel", m.Rows, m.Cols, rank, len(pivots), len(first), kernel.Rows)
		}
	}
}

func TestReducedOnceMore(t *testing.T) {
	for _, m := range some(15) {
		r, pivots, e := gauss.Reduce(m)
		if e != api.OK {
			t.Fatal(e)
		}
		reducesTo(t, r, r, pivots)
	}
}

func TestReducedFormStays(t *testing.T) {
	from := seeded(16)
	for _, m := range some(17) {
		if m.Rows < 2 {
			continue
		}
		r, pivots, e := gauss.Reduce(m)
		if e != api.OK {
			t.Fatal(e)
		}
		i := from.below(m.Rows)
		k := (i + 1 + from.below(m.Rows-1)) % m.Rows
		exchanged := copied(m)
		exchangeRows(exchanged, i, k)
		reducesTo(t, exchanged, r, pivots)

		multiplied, factor := copied(m), from.notZero()
		for j := range m.Cols {
			multiplied.Data[i*m.Cols+j] = products[factor][entry(m, i, j)]
		}
		reducesTo(t, multiplied, r, pivots)

		added := copied(m)
		copy(row(added, i), slowSum(row(m, i), row(m, k)))
		reducesTo(t, added, r, pivots)
	}
}

func TestRankOfAProduct(t *testing.T) {
	for _, n := range [][3]int{{1, 1, 1}, {2, 3, 4}, {4, 3, 2}, {3, 8, 3}, {0, 2, 3}, {3, 0, 3}, {3, 2, 0}, {64, 63, 64}} {
		for _, first := range ranks(n[0], n[1]) {
			for _, second := range ranks(n[1], n[2]) {
				a, b := knownOf(n[0], n[1], first, 18), knownOf(n[1], n[2], second, 19)
				if rank := rankOf(t, slowMul(a.m, b.m)); rank > first || rank > second {
					t.Errorf("the rank of a product of sides %d, of ranks %d and %d, is %d", n, first, second, rank)
				}
			}
		}
	}
}

// P4.6
func TestWhatCombineAnswersPutTogether(t *testing.T) {
	for i, m := range some(20) {
		y := slowCombination(list(m.Rows, i), m)
		by, ok, e := gauss.Combine(m, y)
		if !ok || e != api.OK || len(by) != m.Rows {
			t.Fatalf("Combine of %d x %d = %d, %v, %v", m.Rows, m.Cols, by, ok, e)
		}
		if got := slowCombination(by, m); !bytes.Equal(got, y) {
			t.Errorf("%d x %d: %d put together is %d, want %d", m.Rows, m.Cols, by, got, y)
		}
	}
}

func TestWhatSolveAnswersIsSent(t *testing.T) {
	for i, m := range some(21) {
		b := slowApply(m, list(m.Cols, i))
		x, ok, e := gauss.Solve(m, b)
		if !ok || e != api.OK || len(x) != m.Cols {
			t.Fatalf("Solve of %d x %d = %d, %v, %v", m.Rows, m.Cols, x, ok, e)
		}
		if got := slowApply(m, x); !bytes.Equal(got, b) {
			t.Errorf("%d x %d: %d is sent to %d, want %d", m.Rows, m.Cols, x, got, b)
		}
		kernel, e := gauss.Kernel(m)
		if e != api.OK {
			t.Fatal(e)
		}
		moved := slowSum(x, slowCombination(list(kernel.Rows, i+1), kernel))
		if got := slowApply(m, moved); !bytes.Equal(got, b) {
			t.Errorf("%d x %d: %d is sent to %d, want %d", m.Rows, m.Cols, moved, got, b)
		}
	}
}
