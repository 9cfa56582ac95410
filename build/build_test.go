package build_test

import (
	"math"
	"testing"

	"recoup/api"
	"recoup/build"
)

// notSides are numbers of rows or columns that no matrix has.
func notSides() []int {
	return []int{-1, -64, -256, math.MinInt, math.MinInt + 1, api.MaxSide + 1, 128, 256, 257, 1 << 32, math.MaxInt - 1, math.MaxInt}
}

// P5.1
func TestVandermonde(t *testing.T) {
	for _, rows := range sides() {
		for _, cols := range sides() {
			m, e := build.Vandermonde(rows, cols)
			is(t, "Vandermonde", m, e, slowVandermonde(rows, cols))
		}
	}
}

func TestVandermondeOfAllSides(t *testing.T) {
	for n := range api.MaxSide + 1 {
		m, e := build.Vandermonde(n, api.MaxSide-n)
		is(t, "Vandermonde", m, e, slowVandermonde(n, api.MaxSide-n))
	}
}

func TestVandermondeOfExamples(t *testing.T) {
	m, e := build.Vandermonde(3, 3)
	is(t, "Vandermonde(3, 3)", m, e, of(3, 1, 0, 0, 1, 1, 1, 1, 2, 4))
	m, e = build.Vandermonde(1, 0)
	is(t, "Vandermonde(1, 0)", m, e, api.Matrix{Rows: 1})
	m, e = build.Vandermonde(1, 1)
	is(t, "0 to the power 0", m, e, of(1, 1))
	m, e = build.Vandermonde(1, 3)
	is(t, "powers of 0", m, e, of(3, 1, 0, 0))
	m, e = build.Vandermonde(0, 3)
	is(t, "Vandermonde(0, 3)", m, e, api.Matrix{Cols: 3})
	m, e = build.Vandermonde(0, 0)
	is(t, "Vandermonde(0, 0)", m, e, api.Matrix{})
	m, e = build.Vandermonde(65, 1)
	fails(t, "Vandermonde(65, 1)", m, e, api.ErrArg)
}

func TestVandermondeOfWrongSides(t *testing.T) {
	for _, wrong := range notSides() {
		for _, side := range append(sides(), notSides()...) {
			m, e := build.Vandermonde(wrong, side)
			fails(t, "Vandermonde of wrong rows", m, e, api.ErrArg)
			m, e = build.Vandermonde(side, wrong)
			fails(t, "Vandermonde of wrong columns", m, e, api.ErrArg)
		}
	}
}

func TestCauchy(t *testing.T) {
	for seed := range 4 {
		all := shuffled(seed)
		for _, rows := range sides() {
			for _, cols := range sides() {
				xs, ys := roomy(all[:rows]), roomy(all[256-cols:])
				m, e := build.Cauchy(xs, ys)
				is(t, "Cauchy", m, e, slowCauchy(xs, ys))
			}
		}
	}
}

// Each element but 0 is a sum of two, and all pairs have one.
func TestCauchyOfAllPairs(t *testing.T) {
	for x := range 256 {
		for from := 0; from < 256; from += api.MaxSide {
			var ys []byte
			for _, y := range rising(from, api.MaxSide) {
				if y != byte(x) {
					ys = append(ys, y)
				}
			}
			m, e := build.Cauchy([]byte{byte(x)}, ys)
			is(t, "Cauchy", m, e, slowCauchy([]byte{byte(x)}, ys))
		}
	}
}

func TestCauchyOfExamples(t *testing.T) {
	m, e := build.Cauchy([]byte{2}, []byte{0, 1})
	is(t, "Cauchy(2, 0 1)", m, e, of(2, 142, 244))
	m, e = build.Cauchy([]byte{0, 1}, []byte{2})
	is(t, "Cauchy(0 1, 2)", m, e, of(1, 142, 244))
	m, e = build.Cauchy([]byte{1}, []byte{1})
	fails(t, "Cauchy(1, 1)", m, e, api.ErrArg)
	m, e = build.Cauchy([]byte{1, 1}, nil)
	fails(t, "Cauchy(1 1, none)", m, e, api.ErrArg)
	m, e = build.Cauchy(nil, []byte{5})
	is(t, "Cauchy(none, 5)", m, e, api.Matrix{Cols: 1})
	m, e = build.Cauchy([]byte{5}, nil)
	is(t, "Cauchy(5, none)", m, e, api.Matrix{Rows: 1})
	m, e = build.Cauchy(nil, nil)
	is(t, "Cauchy(none, none)", m, e, api.Matrix{})
	m, e = build.Cauchy([]byte{}, []byte{})
	is(t, "Cauchy of lists without elements", m, e, api.Matrix{})
}

func TestCauchyOfAnElementTwice(t *testing.T) {
	for element := range 256 {
		once, twice := []byte{byte(element)}, []byte{byte(element), byte(element)}
		m, e := build.Cauchy(once, once)
		fails(t, "Cauchy of one in both", m, e, api.ErrArg)
		m, e = build.Cauchy(twice, nil)
		fails(t, "Cauchy of one twice in the first", m, e, api.ErrArg)
		m, e = build.Cauchy(nil, twice)
		fails(t, "Cauchy of one twice in the second", m, e, api.ErrArg)
	}
}

// Wherever the two stand in lists that are as long as may be.
func TestCauchyOfAnElementTwiceInLongLists(t *testing.T) {
	from := seeded(2)
	for range 500 {
		both := shuffled(from.below(1000))[:2*api.MaxSide]
		i := from.below(len(both))
		k := (i + 1 + from.below(len(both)-1)) % len(both)
		both[i] = both[k]
		m, e := build.Cauchy(both[:api.MaxSide], both[api.MaxSide:])
		fails(t, "Cauchy of one twice", m, e, api.ErrArg)
	}
}

// ErrLimit goes ahead of ErrArg.
func TestCauchyOfTooManyElements(t *testing.T) {
	for _, length := range []int{api.MaxSide + 1, 128, 192, 255, 256, 1000} {
		for _, other := range []int{0, 1, api.MaxSide, api.MaxSide + 1, 1000} {
			for _, long := range [][]byte{rising(0, length), make([]byte, length)} {
				for _, second := range [][]byte{rising(100, other), make([]byte, other)} {
					m, e := build.Cauchy(long, second)
					fails(t, "Cauchy of too many in the first", m, e, api.ErrLimit)
					m, e = build.Cauchy(second, long)
					fails(t, "Cauchy of too many in the second", m, e, api.ErrLimit)
				}
			}
		}
	}
}
