package verdict_test

import (
	"slices"
	"testing"

	"recoup/api"
	"recoup/build"
	"recoup/verdict"
)

// P18.2

// readsOnly asks whether the entries are 0 in all columns but these.
func readsOnly(m api.Matrix, columns []int) bool {
	for i := range m.Rows {
		for j, element := range row(m, i) {
			if element != 0 && !slices.Contains(columns, j) {
				return false
			}
		}
	}
	return true
}

// isNothing tells where what is not recovered is answered otherwise.
func isNothing(t *testing.T, what string, m api.Matrix, ok bool, e api.Errno) {
	t.Helper()
	if m.Rows != 0 || m.Cols != 0 || len(m.Data) != 0 || ok || e != api.OK {
		t.Errorf("%s = %v, %v, %v, want nothing", what, m, ok, e)
	}
}

// There is just one matrix of which all this is said.
func TestDecode(t *testing.T) {
	everyLost(func(k generator, lost []int) {
		sources, want := slowSources(k.g, lost)
		d, ok, e := verdict.Decode(k.g, set(lost...))
		if !want {
			isNothing(t, k.name, d, ok, e)
			return
		}
		if d.Rows != k.g.Cols || d.Cols != k.g.Rows || len(d.Data) != d.Rows*d.Cols || !ok || e != api.OK {
			t.Fatalf("%s: Decode of %v is %d x %d, %v, %v", k.name, lost, d.Rows, d.Cols, ok, e)
		}
		if !alike(slowMul(d, k.g), identity(k.g.Cols)) {
			t.Errorf("%s: Decode of %v does not make the data", k.name, lost)
		}
		if !readsOnly(d, sources) {
			t.Errorf("%s: Decode of %v reads others than %v", k.name, lost, sources)
		}
	})
}

// pointed is, for a polynomial that has fewer coefficients than there are
// points, the factor of its value at a point in its value at another place.
func pointed(points []int, point, place int) byte {
	factor := byte(1)
	for _, other := range points {
		if other != point {
			factor = products[factor][products[byte(place^other)][inverses[byte(point^other)]]]
		}
	}
	return factor
}

// The blocks of a Reed code are what a polynomial is at their numbers, the data
// what it is at the first ones.
func TestDecodeOfPolynomials(t *testing.T) {
	for _, sides := range [][2]int{{1, 1}, {2, 2}, {4, 4}, {7, 20}, {30, 34}} {
		g := must(build.Reed(sides[0], sides[1]))
		for _, lost := range lostOf(g) {
			left := others(g.Rows, lost)
			if len(left) < g.Cols {
				continue
			}
			points := left[:g.Cols]
			made := func(places []int) api.Matrix {
				return slow(len(places), g.Rows, func(i, j int) byte {
					if !slices.Contains(points, j) {
						return 0
					}
					return pointed(points, j, places[i])
				})
			}
			if d, ok, e := verdict.Decode(g, set(lost...)); !ok || e != api.OK || !alike(d, made(rising(0, g.Cols))) {
				t.Errorf("%d: Decode of %v = %v, %v, %v", sides, lost, d, ok, e)
			}
			if m, ok, e := verdict.Rebuild(g, set(lost...)); !ok || e != api.OK || !alike(m, made(lost)) {
				t.Errorf("%d: Rebuild of %v = %v, %v, %v", sides, lost, m, ok, e)
			}
		}
	}
}

// Data blocks that are there are read as they are.
func TestDecodeOfDataThatAreThere(t *testing.T) {
	for _, k := range append(small(), great()...) {
		if !alike(picked(k.g, rising(0, k.g.Cols)), identity(k.g.Cols)) {
			continue
		}
		want := slow(k.g.Cols, k.g.Rows, func(i, j int) byte { return oneIf(i == j) })
		for _, lost := range [][]int{nil, rising(k.g.Cols, k.g.Rows)} {
			if d, ok, e := verdict.Decode(k.g, set(lost...)); !ok || e != api.OK || !alike(d, want) {
				t.Errorf("%s: Decode of %v = %v, %v, %v", k.name, lost, d, ok, e)
			}
		}
	}
}

func TestDecodeAtTheEdges(t *testing.T) {
	last := noughts(1, 64)
	last.Data[63] = inverses[9]
	nines := slow(64, 1, func(_, _ int) byte { return 9 })
	for _, c := range []struct {
		name string
		g    api.Matrix
		lost api.Set
		d    api.Matrix
	}{
		{"the example", of(2, 1, 0, 0, 1, 1, 1), set(0), of(3, 0, 1, 1, 0, 1, 0)},
		{"the example", of(2, 1, 0, 0, 1, 1, 1), set(1), of(3, 1, 0, 0, 1, 0, 1)},
		{"the example", of(2, 1, 0, 0, 1, 1, 1), 0, of(3, 1, 0, 0, 0, 1, 0)},
		{"one row", of(1, 2), 0, of(1, 142)},
		{"one column", of(1, 2, 2), set(0), of(2, 0, 142)},
		{"one column, noughts on top", of(1, 0, 2, 1), 0, of(3, 0, 142, 0)},
		{"a row twice", of(2, 1, 0, 1, 0, 0, 1), 0, of(3, 1, 0, 0, 0, 0, 1)},
		{"a row twice", of(2, 1, 0, 1, 0, 0, 1), set(0), of(3, 0, 1, 0, 0, 0, 1)},
		{"columns the other way round", of(2, 0, 1, 1, 0), 0, of(2, 0, 1, 1, 0)},
		{"the identity", identity(64), 0, identity(64)},
		{"all but the last", nines, set(rising(0, 63)...), last},
	} {
		if d, ok, e := verdict.Decode(c.g, c.lost); !ok || e != api.OK || !alike(d, c.d) {
			t.Errorf("%s: Decode of %v = %v, %v, %v, want %v", c.name, numbersOf(c.lost), d, ok, e, c.d)
		}
	}
}
