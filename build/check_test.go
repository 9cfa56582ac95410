package build_test

import (
	"testing"

	"recoup/api"
	"recoup/build"
)

// P5.4: Check's matrix has a row for each of g's that is a combination of
// those above, rising: 1 there, 0 at all others of these; its product with g
// is 0. There is just one such matrix.
func TestCheck(t *testing.T) {
	for seed := range 3 {
		for _, rows := range sides() {
			for _, cols := range sides() {
				if rows >= cols {
					checks(t, layeredOf(rows, cols, cols, seed))
				}
			}
		}
	}
}

func TestCheckOfSmallOnes(t *testing.T) {
	for seed := range 60 {
		for rows := range 6 {
			for cols := range rows + 1 {
				checks(t, layeredOf(rows, cols, cols, seed))
			}
		}
	}
}

func checks(t *testing.T, l layered) {
	t.Helper()
	h, e := build.Check(l.m)
	if e != api.OK || h.Rows != len(l.rest) || h.Cols != l.m.Rows || len(h.Data) != h.Rows*h.Cols {
		t.Fatalf("Check of %v = %v, %v", l.m, h, e)
	}
	atRest := slow(h.Rows, h.Rows, func(i, j int) byte { return entry(h, i, l.rest[j]) })
	is(t, "Check's matrix at the rows that are combinations", atRest, e, identity(h.Rows))
	is(t, "Check's matrix times g", slowMul(h, l.m), e, noughts(h.Rows, l.m.Cols))
}

func TestCheckOfSingularOnes(t *testing.T) {
	for seed := range 3 {
		for _, rows := range sides() {
			for _, cols := range sides() {
				if rows < cols || cols == 0 {
					continue
				}
				for _, rank := range []int{0, cols / 2, cols - 1} {
					h, e := build.Check(layeredOf(rows, cols, rank, seed).m)
					fails(t, "Check of a singular one", h, e, api.ErrSingular)
				}
			}
		}
	}
}

// ErrShape goes ahead of ErrSingular.
func TestCheckOfWrongOnes(t *testing.T) {
	for _, m := range allWrong() {
		h, e := build.Check(m)
		fails(t, "Check of a wrong one", h, e, api.ErrShape)
	}
}

func TestCheckOfExamples(t *testing.T) {
	h, e := build.Check(of(2, 1, 0, 0, 1, 3, 2))
	is(t, "Check(1 0 / 0 1 / 3 2)", h, e, of(3, 3, 2, 1))
	h, e = build.Check(of(1, 1, 0, 0))
	is(t, "Check(1 / 0 / 0)", h, e, of(3, 0, 1, 0, 0, 0, 1))
	h, e = build.Check(of(1, 0, 2, 1))
	is(t, "Check(0 / 2 / 1)", h, e, of(3, 1, 0, 0, 0, 142, 1))
	h, e = build.Check(of(1, 0, 0))
	fails(t, "Check(0 / 0)", h, e, api.ErrSingular)
	h, e = build.Check(api.Matrix{})
	is(t, "Check of no rows and no columns", h, e, api.Matrix{})
	for _, n := range sides() {
		h, e = build.Check(identity(n))
		is(t, "Check of an identity", h, e, api.Matrix{Cols: n})
		h, e = build.Check(invertible(n, 1))
		is(t, "Check of as many rows as columns", h, e, api.Matrix{Cols: n})
		h, e = build.Check(api.Matrix{Rows: n})
		is(t, "Check of no columns", h, e, identity(n))
	}
}

func mds(t *testing.T, what string, g api.Matrix, want bool) {
	t.Helper()
	if got, e := build.MDS(g); got != want || e != api.OK {
		t.Errorf("MDS of %s, %d x %d = %v, %v, want %v", what, g.Rows, g.Cols, got, e, want)
	}
}

// slowMDS looks at the rank of each choice of rows.
func slowMDS(g api.Matrix) bool {
	for _, rows := range slowChoices(g.Rows, g.Cols) {
		if slowRank(picked(g, rows)) < g.Cols {
			return false
		}
	}
	return true
}

func TestMDSOfSmallOnes(t *testing.T) {
	told := map[bool]int{}
	for seed := range 12 {
		for rows := range 7 {
			for cols := range rows + 1 {
				for _, g := range []api.Matrix{
					filled(rows, cols, seed),
					slowMul(slowVandermonde(rows, cols), invertible(cols, seed)),
					slowMul(systematic(rows, cols, seed), invertible(cols, seed)),
				} {
					want := slowMDS(g)
					told[want]++
					mds(t, "a small one", g, want)
				}
			}
		}
	}
	if told[true] == 0 || told[false] == 0 {
		t.Errorf("all alike: %v", told)
	}
}

// Of all choices one alone is dependent, whichever it is.
func TestMDSOfOneDependentChoice(t *testing.T) {
	for rows := 1; rows < 7; rows++ {
		for cols := 1; cols <= rows; cols++ {
			for i, chosen := range slowChoices(rows, cols) {
				g := copied(slowVandermonde(rows, cols))
				last := chosen[cols-1]
				factors := make([]byte, rows)
				for _, k := range chosen[:cols-1] {
					factors[k] = byte(i + k + 1)
				}
				copy(row(g, last), slowCombination(factors, g))
				mds(t, "one with a dependent choice", g, false)
			}
		}
	}
}

// At the sides at which there are most choices that may be gone through.
func TestMDSOfManyChoices(t *testing.T) {
	for _, sides := range [][2]int{{47, 3}, {47, 44}, {26, 4}, {26, 22}, {20, 5}, {20, 15}, {17, 6}, {17, 11}, {16, 7}, {16, 8}, {16, 9}, {64, 2}, {64, 62}, {64, 1}, {64, 63}, {64, 64}} {
		rows, cols := sides[0], sides[1]
		g := slowMul(slowVandermonde(rows, cols), invertible(cols, rows))
		mds(t, "powers", g, true)
		// The last choice is the only one that is dependent, or nearly so.
		factors := make([]byte, rows)
		for k := rows - cols; k < rows-1; k++ {
			factors[k] = byte(k)
		}
		copy(row(g, rows-1), slowCombination(factors, g))
		mds(t, "powers with the last rows dependent", g, false)
	}
}

func TestMDSOfNoColumnsAndSquares(t *testing.T) {
	for _, n := range sides() {
		mds(t, "no columns", api.Matrix{Rows: n}, true)
		mds(t, "an identity", identity(n), true)
		mds(t, "as many rows as columns", invertible(n, 3), true)
		if n > 0 {
			mds(t, "dependent rows", singular(n, 3), false)
			mds(t, "noughts", noughts(n, n), false)
			mds(t, "noughts in one column", noughts(api.MaxSide, 1), false)
		}
	}
}

func TestMDSAtItsLimit(t *testing.T) {
	all := counts(1 << 20)
	for rows := range api.MaxSide + 1 {
		for cols := range rows + 1 {
			got, e := build.MDS(noughts(rows, cols))
			if all[rows][cols] > api.MaxPatterns {
				if got || e != api.ErrLimit {
					t.Errorf("MDS of %d x %d = %v, %v, want an error", rows, cols, got, e)
				}
			} else if got != (cols == 0) || e != api.OK {
				t.Errorf("MDS of %d x %d = %v, %v", rows, cols, got, e)
			}
		}
	}
}

// ErrLimit does not hang on what the rows are.
func TestMDSOfTooManyChoices(t *testing.T) {
	for _, sides := range [][2]int{{48, 3}, {48, 45}, {27, 4}, {21, 5}, {18, 6}, {17, 8}, {64, 3}, {64, 61}, {64, 32}, {40, 20}} {
		rows, cols := sides[0], sides[1]
		for _, g := range []api.Matrix{slowVandermonde(rows, cols), systematic(rows, cols, 1), filled(rows, cols, 1), noughts(rows, cols)} {
			if got, e := build.MDS(g); got || e != api.ErrLimit {
				t.Errorf("MDS of %d x %d = %v, %v", rows, cols, got, e)
			}
		}
	}
}

// ErrShape goes ahead of ErrLimit.
func TestMDSOfWrongOnes(t *testing.T) {
	all := append(allWrong(), api.Matrix{Rows: 40, Cols: 20, Data: list(799, 1)}, api.Matrix{Rows: 65, Cols: 20, Data: list(1300, 1)}, filled(20, 40, 1))
	for _, m := range all {
		if got, e := build.MDS(m); got || e != api.ErrShape {
			t.Errorf("MDS of %d rows, %d columns, %d elements = %v, %v", m.Rows, m.Cols, len(m.Data), got, e)
		}
	}
}

func TestMDSOfExamples(t *testing.T) {
	reed, _ := build.Reed(2, 2)
	mds(t, "Reed(2, 2)", reed, true)
	mds(t, "1 0 / 0 1 / 1 0", of(2, 1, 0, 0, 1, 1, 0), false)
	mds(t, "1 0 / 0 1 / 0 0", of(2, 1, 0, 0, 1, 0, 0), false)
	mds(t, "1 0 / 0 1 / 1 1", of(2, 1, 0, 0, 1, 1, 1), true)
	mds(t, "no rows and no columns", api.Matrix{}, true)
	great, _ := build.Reed(20, 20)
	if got, e := build.MDS(great); got || e != api.ErrLimit {
		t.Errorf("MDS(Reed(20, 20)) = %v, %v", got, e)
	}
}
