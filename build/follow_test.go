package build_test

import (
	"bytes"
	"testing"

	"recoup/api"
	"recoup/build"
)

// generators are Reed's and Cross's of one code.
func generators(t *testing.T, k, m int) map[string]api.Matrix {
	t.Helper()
	reed, e := build.Reed(k, m)
	cross, e1 := build.Cross(k, m)
	if e != api.OK || e1 != api.OK {
		t.Fatal(k, m, e, e1)
	}
	return map[string]api.Matrix{"Reed": reed, "Cross": cross}
}

// P5.5
func TestAnyRowsAreIndependent(t *testing.T) {
	from := seeded(5)
	for _, code := range codes() {
		k, m := code[0], code[1]
		for name, g := range generators(t, k, m) {
			chosen := [][]int{places(from, k+m, k), places(from, k+m, k)}
			if k+m <= 9 {
				chosen = slowChoices(k+m, k)
			}
			for _, rows := range chosen {
				if slowRank(picked(g, rows)) != k {
					t.Errorf("%s(%d, %d): rows %d are not independent", name, k, m, rows)
				}
			}
		}
	}
}

// The package's own judgement, where it may go through all choices.
func TestCodesAreMDS(t *testing.T) {
	all := counts(1 << 20)
	for _, code := range codes() {
		k, m := code[0], code[1]
		if all[k+m][k] > api.MaxPatterns {
			continue
		}
		for name, g := range generators(t, k, m) {
			mds(t, name, g, true)
		}
	}
}

func TestIdentityOnTop(t *testing.T) {
	for _, code := range codes() {
		k, m := code[0], code[1]
		for name, g := range generators(t, k, m) {
			top := api.Matrix{Rows: k, Cols: k, Data: g.Data[:k*k]}
			is(t, name, top, api.OK, identity(k))
		}
	}
}

func TestSquaresOfACauchyMatrix(t *testing.T) {
	for seed := range 4 {
		all := shuffled(seed)
		m, e := build.Cauchy(all[:5], all[5:10])
		if e != api.OK {
			t.Fatal(e)
		}
		for n := range 6 {
			for _, rows := range slowChoices(5, n) {
				for _, cols := range slowChoices(5, n) {
					squareHasInverse(t, m, rows, cols)
				}
			}
		}
	}
}

func TestSquaresOfAGreatCauchyMatrix(t *testing.T) {
	from := seeded(6)
	all := shuffled(7)
	m, e := build.Cauchy(all[:64], all[64:128])
	if e != api.OK {
		t.Fatal(e)
	}
	for n := range api.MaxSide + 1 {
		squareHasInverse(t, m, places(from, 64, n), places(from, 64, n))
	}
}

func squareHasInverse(t *testing.T, m api.Matrix, rows, cols []int) {
	t.Helper()
	square := slow(len(rows), len(cols), func(i, j int) byte { return entry(m, rows[i], cols[j]) })
	if slowRank(square) != len(rows) {
		t.Errorf("rows %d, columns %d have no inverse", rows, cols)
	}
}

// A list is one that g makes just if it is a combination of g's columns.
func TestCheckTellsWhatGMakes(t *testing.T) {
	from := seeded(8)
	told := map[bool]int{}
	for seed := range 20 {
		for _, n := range [][2]int{{1, 1}, {2, 1}, {3, 1}, {3, 2}, {5, 2}, {8, 5}, {4, 0}, {20, 12}} {
			g := layeredOf(n[0], n[1], n[1], seed).m
			h, e := build.Check(g)
			if e != api.OK {
				t.Fatal(e)
			}
			made := slowApply(g, list(g.Cols, seed))
			spoilt := bytes.Clone(made)
			spoilt[from.below(len(spoilt))] ^= from.notZero()
			for _, x := range [][]byte{made, spoilt, list(g.Rows, seed), make([]byte, g.Rows)} {
				want := slowRank(stacked(turned(g), api.Matrix{Rows: 1, Cols: len(x), Data: x})) == g.Cols
				told[want]++
				if got := bytes.Equal(slowApply(h, x), make([]byte, h.Rows)); got != want {
					t.Errorf("Check's matrix of %d x %d: %v, that g makes %d: %v", g.Rows, g.Cols, got, x, want)
				}
			}
		}
	}
	if told[true] == 0 || told[false] == 0 {
		t.Errorf("all alike: %v", told)
	}
}

func TestSystematicOnceMore(t *testing.T) {
	for seed := range 3 {
		for _, rows := range sides() {
			for _, cols := range sides() {
				if rows < cols {
					continue
				}
				want := systematic(rows, cols, seed)
				m, e := build.Systematic(want)
				is(t, "Systematic of a systematic one", m, e, want)
			}
		}
	}
}

// The columns of both together have no greater rank than those of one.
func TestSystematicMakesTheSameLists(t *testing.T) {
	for seed := range 3 {
		for _, n := range [][2]int{{1, 1}, {2, 1}, {3, 2}, {5, 3}, {8, 8}, {30, 20}, {64, 63}} {
			rows, cols := n[0], n[1]
			m := stacked(invertible(cols, seed), filled(rows-cols, cols, seed))
			s, e := build.Systematic(m)
			if e != api.OK {
				t.Fatal(e)
			}
			both := stacked(turned(m), turned(s))
			if slowRank(turned(s)) != cols || slowRank(both) != cols {
				t.Errorf("Systematic of %d x %d makes other lists", rows, cols)
			}
		}
	}
}
