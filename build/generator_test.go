package build_test

import (
	"math"
	"testing"

	"recoup/api"
	"recoup/build"
)

// P5.2: what is made of a systematic one by an inverse comes back to it, for
// there is one matrix alone by which the first rows become the identity.
func TestSystematic(t *testing.T) {
	for seed := range 3 {
		for _, rows := range sides() {
			for _, cols := range sides() {
				if rows < cols {
					continue
				}
				want := systematic(rows, cols, seed)
				m, e := build.Systematic(slowMul(want, invertible(cols, seed)))
				is(t, "Systematic", m, e, want)
			}
		}
	}
}

func TestSystematicOfSmallOnes(t *testing.T) {
	for seed := range 100 {
		for cols := range 5 {
			want := systematic(cols+seed%4, cols, seed)
			m, e := build.Systematic(slowMul(want, invertible(cols, seed)))
			is(t, "Systematic", m, e, want)
		}
	}
}

func TestSystematicOfNoColumns(t *testing.T) {
	for rows := range api.MaxSide + 1 {
		m, e := build.Systematic(api.Matrix{Rows: rows})
		is(t, "Systematic of no columns", m, e, api.Matrix{Rows: rows})
	}
}

// The rows below, independent as they may be, are of no help.
func TestSystematicOfSingularOnes(t *testing.T) {
	for seed := range 3 {
		for _, n := range []int{1, 2, 3, 5, 8, 32} {
			top := singular(n, seed)
			for _, below := range []api.Matrix{{Cols: n}, identity(n), noughts(1, n), filled(n, n, seed)} {
				m, e := build.Systematic(stacked(top, below))
				fails(t, "Systematic of a singular one", m, e, api.ErrSingular)
				m, e = build.Systematic(stacked(noughts(n, n), below))
				fails(t, "Systematic of noughts", m, e, api.ErrSingular)
			}
		}
		m, e := build.Systematic(singular(api.MaxSide, seed))
		fails(t, "Systematic of a singular one", m, e, api.ErrSingular)
	}
}

// ErrShape goes ahead of ErrSingular.
func TestSystematicOfWrongOnes(t *testing.T) {
	for _, m := range allWrong() {
		got, e := build.Systematic(m)
		fails(t, "Systematic of a wrong one", got, e, api.ErrShape)
	}
}

// allWrong are matrices that are not right, or have fewer rows than columns.
func allWrong() []api.Matrix {
	all := wrong()
	for _, rows := range sides() {
		for _, cols := range append(sides(), rows+1) {
			if rows < cols && cols <= api.MaxSide {
				all = append(all, filled(rows, cols, 1), noughts(rows, cols))
			}
		}
	}
	return all
}

func TestSystematicOfExamples(t *testing.T) {
	m, e := build.Systematic(of(2, 1, 0, 1, 1, 1, 2))
	is(t, "Systematic(1 0 / 1 1 / 1 2)", m, e, of(2, 1, 0, 0, 1, 3, 2))
	m, e = build.Systematic(of(1, 0, 1))
	fails(t, "Systematic(0 / 1)", m, e, api.ErrSingular)
	m, e = build.Systematic(of(2, 1, 2))
	fails(t, "Systematic(1 2)", m, e, api.ErrShape)
	m, e = build.Systematic(of(1, 2, 4))
	is(t, "Systematic(2 / 4)", m, e, of(1, 1, 2))
	m, e = build.Systematic(api.Matrix{})
	is(t, "Systematic of no rows and no columns", m, e, api.Matrix{})
}

// P5.3: the product of Reed's matrix and the first powers are all the powers.
func TestReed(t *testing.T) {
	for _, code := range codes() {
		k, m := code[0], code[1]
		g, e := build.Reed(k, m)
		if e != api.OK || g.Rows != k+m || g.Cols != k || len(g.Data) != (k+m)*k {
			t.Fatalf("Reed(%d, %d) = %v, %v", k, m, g, e)
		}
		is(t, "Reed times the first powers", slowMul(g, slowVandermonde(k, k)), e, slowVandermonde(k+m, k))
	}
}

func TestCross(t *testing.T) {
	for _, code := range codes() {
		k, m := code[0], code[1]
		g, e := build.Cross(k, m)
		is(t, "Cross", g, e, stacked(identity(k), slowCauchy(rising(k, m), rising(0, k))))
	}
}

func TestReedAndCrossOfExamples(t *testing.T) {
	m, e := build.Reed(2, 1)
	is(t, "Reed(2, 1)", m, e, of(2, 1, 0, 0, 1, 3, 2))
	m, e = build.Cross(2, 1)
	is(t, "Cross(2, 1)", m, e, of(2, 1, 0, 0, 1, 142, 244))
	m, e = build.Reed(1, 3)
	is(t, "Reed(1, 3)", m, e, of(1, 1, 1, 1, 1))
	m, e = build.Cross(1, 3)
	is(t, "Cross(1, 3)", m, e, of(1, 1, 1, 142, 244))
	for _, k := range []int{1, 2, 63, api.MaxSide} {
		m, e = build.Reed(k, 0)
		is(t, "Reed of no more blocks", m, e, identity(k))
		m, e = build.Cross(k, 0)
		is(t, "Cross of no more blocks", m, e, identity(k))
	}
}

func TestReedAndCrossOfWrongNumbers(t *testing.T) {
	refused := func(k, m int) {
		t.Helper()
		g, e := build.Reed(k, m)
		fails(t, "Reed", g, e, api.ErrArg)
		g, e = build.Cross(k, m)
		fails(t, "Cross", g, e, api.ErrArg)
	}
	huge := []int{api.MaxSide + 1, 256, 1 << 32, 1 << 62, math.MaxInt - 64, math.MaxInt - 1, math.MaxInt}
	below := []int{-1, -2, -64, -256, math.MinInt + 1, math.MinInt}
	for _, n := range append(huge, below...) {
		for _, other := range append(append(sides(), huge...), below...) {
			refused(n, other)
			refused(other, n)
		}
	}
	for m := range api.MaxSide + 2 {
		refused(0, m)
	}
	for k := range api.MaxSide + 2 {
		refused(k, api.MaxSide+1-k)
		refused(k, -1)
		// The sum comes round to one that might be.
		refused(math.MinInt, math.MinInt+k)
		refused(math.MaxInt, math.MinInt+k)
	}
}
