package gauss_test

import (
	"slices"
	"testing"

	"recoup/api"
	"recoup/gauss"
)

// reducesTo tells where Reduce or Rank did not answer this.
func reducesTo(t *testing.T, m, want api.Matrix, pivots []int) {
	t.Helper()
	r, got, e := gauss.Reduce(m)
	is(t, "Reduce", r, e, want)
	if !slices.Equal(got, pivots) {
		t.Errorf("pivots of %d x %d = %d, want %d", m.Rows, m.Cols, got, pivots)
	}
	rank, e := gauss.Rank(m)
	if rank != len(pivots) || e != api.OK {
		t.Errorf("Rank of %d x %d = %d, %v, want %d", m.Rows, m.Cols, rank, e, len(pivots))
	}
}

// P4.1
func TestReduceAndRank(t *testing.T) {
	for seed := range 3 {
		for _, k := range allKnown(seed) {
			reducesTo(t, k.m, k.reduced, k.pivots)
		}
	}
}

// Small ones of each rank, so often that the pivots stand in all places.
func TestReduceOfSmallOnes(t *testing.T) {
	for seed := range 40 {
		for rows := range 6 {
			for cols := range 6 {
				for rank := range min(rows, cols) + 1 {
					k := knownOf(rows, cols, rank, seed)
					reducesTo(t, k.m, k.reduced, k.pivots)
				}
			}
		}
	}
}

func TestReduceOfNoughts(t *testing.T) {
	for _, rows := range sides() {
		for _, cols := range sides() {
			reducesTo(t, noughts(rows, cols), noughts(rows, cols), nil)
		}
	}
}

// One entry alone is the pivot, wherever it stands, whatever it is.
func TestReduceOfOneEntry(t *testing.T) {
	for i := range 5 {
		for j := range 4 {
			for _, element := range []byte{1, 2, 29, 255} {
				m, want := noughts(5, 4), noughts(5, 4)
				m.Data[i*4+j] = element
				want.Data[j] = 1
				reducesTo(t, m, want, []int{j})
			}
		}
	}
	for element := 1; element < 256; element++ {
		reducesTo(t, of(1, byte(element)), of(1, 1), []int{0})
	}
}

// Of rows that stand the wrong way round none is a first one.
func TestReduceTurnsRowsAbout(t *testing.T) {
	for _, n := range sides() {
		about := slow(n, n, func(i, j int) byte {
			if i+j == n-1 {
				return 7
			}
			return 0
		})
		all := make([]int, n)
		for j := range all {
			all[j] = j
		}
		reducesTo(t, about, identity(n), all)
	}
}

func TestReduceOfExamples(t *testing.T) {
	reducesTo(t, of(2, 2, 4, 1, 2), of(2, 1, 2, 0, 0), []int{0})
	reducesTo(t, of(2, 0, 3, 1, 0), of(2, 1, 0, 0, 1), []int{0, 1})
	reducesTo(t, api.Matrix{Cols: 2}, api.Matrix{Cols: 2}, nil)
	reducesTo(t, api.Matrix{Rows: 2}, api.Matrix{Rows: 2}, nil)
	reducesTo(t, api.Matrix{}, api.Matrix{}, nil)
	reducesTo(t, of(2, 1, 2, 2, 4), of(2, 1, 2, 0, 0), []int{0})
	reducesTo(t, of(2, 1, 2, 3, 4), of(2, 1, 0, 0, 1), []int{0, 1})
	reducesTo(t, of(2, 0, 0), of(2, 0, 0), nil)
	reducesTo(t, of(4, 0, 0, 2, 4, 0, 0, 1, 2, 0, 3, 0, 0), of(4, 0, 1, 0, 0, 0, 0, 1, 2, 0, 0, 0, 0), []int{1, 2})
}

func TestReduceAndRankOfOnesThatAreNotRight(t *testing.T) {
	for _, m := range wrong() {
		r, pivots, e := gauss.Reduce(m)
		fails(t, "Reduce", r, e, api.ErrShape)
		if len(pivots) != 0 {
			t.Errorf("pivots %d beside an error", pivots)
		}
		if rank, e := gauss.Rank(m); rank != 0 || e != api.ErrShape {
			t.Errorf("Rank of %d rows, %d columns, %d elements = %d, %v", m.Rows, m.Cols, len(m.Data), rank, e)
		}
	}
}

// P4.2
func TestInverse(t *testing.T) {
	for seed := range 4 {
		for _, n := range sides() {
			inverts(t, invertible(n, seed))
			inverts(t, identity(n))
		}
	}
	for element := 1; element < 256; element++ {
		inverts(t, of(1, byte(element)))
	}
}

func TestInverseOfSmallOnes(t *testing.T) {
	for seed := range 200 {
		for n := range 5 {
			inverts(t, invertible(n, seed))
		}
	}
}

// inverts tells where Inverse's product with m, either way, is not the
// identity.
func inverts(t *testing.T, m api.Matrix) {
	t.Helper()
	inverse, e := gauss.Inverse(m)
	if e != api.OK || inverse.Rows != m.Rows || inverse.Cols != m.Cols || len(inverse.Data) != len(m.Data) {
		t.Fatalf("Inverse of %d x %d = %v, %v", m.Rows, m.Cols, inverse, e)
	}
	is(t, "m times its Inverse", slowMul(m, inverse), e, identity(m.Rows))
	is(t, "Inverse times m", slowMul(inverse, m), e, identity(m.Rows))
}

func TestInverseOfSingularOnes(t *testing.T) {
	for seed := range 3 {
		for _, n := range sides() {
			for _, rank := range ranks(n, n) {
				if rank == n {
					continue
				}
				m, e := gauss.Inverse(knownOf(n, n, rank, seed).m)
				fails(t, "Inverse of a singular one", m, e, api.ErrSingular)
			}
		}
	}
	m, e := gauss.Inverse(noughts(64, 64))
	fails(t, "Inverse of noughts", m, e, api.ErrSingular)
}

// ErrShape goes ahead of ErrSingular.
func TestInverseOfOnesThatAreNotSquare(t *testing.T) {
	for _, rows := range sides() {
		for _, cols := range sides() {
			if rows == cols {
				continue
			}
			m, e := gauss.Inverse(filled(rows, cols, 1))
			fails(t, "Inverse of one that is not square", m, e, api.ErrShape)
			m, e = gauss.Inverse(noughts(rows, cols))
			fails(t, "Inverse of noughts that are not square", m, e, api.ErrShape)
		}
	}
	for _, wrong := range wrong() {
		m, e := gauss.Inverse(wrong)
		fails(t, "Inverse of one that is not right", m, e, api.ErrShape)
	}
}

func TestInverseOfExamples(t *testing.T) {
	m, e := gauss.Inverse(of(2, 1, 1, 0, 1))
	is(t, "Inverse(1 1 / 0 1)", m, e, of(2, 1, 1, 0, 1))
	m, e = gauss.Inverse(of(1, 2))
	is(t, "Inverse(2)", m, e, of(1, 142))
	m, e = gauss.Inverse(of(2, 0, 1, 1, 0))
	is(t, "Inverse(0 1 / 1 0)", m, e, of(2, 0, 1, 1, 0))
	m, e = gauss.Inverse(of(3, 0, 1, 0, 0, 0, 1, 1, 0, 0))
	is(t, "Inverse(0 1 0 / 0 0 1 / 1 0 0)", m, e, of(3, 0, 0, 1, 1, 0, 0, 0, 1, 0))
	m, e = gauss.Inverse(of(2, 1, 2, 2, 4))
	fails(t, "Inverse(1 2 / 2 4)", m, e, api.ErrSingular)
	m, e = gauss.Inverse(of(1, 0))
	fails(t, "Inverse(0)", m, e, api.ErrSingular)
	m, e = gauss.Inverse(of(2, 1, 2))
	fails(t, "Inverse(1 2)", m, e, api.ErrShape)
	m, e = gauss.Inverse(api.Matrix{})
	is(t, "Inverse of no rows and no columns", m, e, api.Matrix{})
}
