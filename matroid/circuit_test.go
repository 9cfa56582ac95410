package matroid_test

import (
	"testing"

	"recoup/api"
	"recoup/matroid"
)

// P7.3
func TestCircuits(t *testing.T) {
	told := map[bool]int{}
	for _, k := range append(small(), great()...) {
		for _, s := range k.freeSets() {
			for _, b := range k.some(k.others(s)) {
				want, there := k.circuit(b, s)
				told[there]++
				circuitIs(t, k, b, s, want, there)
			}
		}
	}
	if told[true] == 0 || told[false] == 0 {
		t.Errorf("all alike: %v", told)
	}
}

func TestCircuitsOfExamples(t *testing.T) {
	k := small()[0]
	circuitIs(t, k, 2, []int{0, 1}, []int{0, 1, 2}, true)
	circuitIs(t, k, 3, []int{2}, []int{2, 3}, true)
	circuitIs(t, k, 1, []int{2}, nil, false)
	circuitIs(t, k, 4, nil, []int{4}, true)
	circuitIs(t, k, 4, []int{0, 1}, []int{4}, true)
	circuitIs(t, k, 3, []int{0, 2}, []int{2, 3}, true)
	circuitIs(t, k, 0, nil, nil, false)
	circuitFails(t, k.g, 0, setOf(2, 3), api.ErrArg)
}

// The row b is put together of rows that are independent, with factors that
// are known, wherever it stands.
func TestCircuitHasTheFactorsThatAreNotZero(t *testing.T) {
	for seed := range 40 {
		from := seeded(seed)
		cols := 1 + from.below(63)
		b := from.below(cols + 1)
		if seed%4 == 0 {
			cols, b = 63, 63
		}
		rows := without(rising(0, cols+1), b)
		used := from.chosen(cols, from.below(cols+1))
		g := noughts(cols+1, cols)
		independent := invertible(cols, seed)
		factors := make([]byte, cols)
		want := []int{b}
		for _, place := range used {
			factors[place] = from.notZero()
			want = with(want, rows[place])
		}
		for place, i := range rows {
			copy(row(g, i), row(independent, place))
		}
		copy(row(g, b), slowCombination(factors, independent))
		k := reduced("put together", g)
		circuitIs(t, k, b, rows, want, true)
		for _, place := range k.some(used) {
			circuitIs(t, k, b, without(rows, rows[place]), nil, false)
		}
	}
}

// A multiple of a row, by each factor, and a sum of two.
func TestCircuitOfEachFactor(t *testing.T) {
	for factor := range 256 {
		by := byte(factor)
		k := reduced("a multiple, a sum", of(2, 1, 5, products[by][1], products[by][5], 3, 7, 3^products[by][1], 7^products[by][5]))
		multiple, sum := []int{0, 1}, []int{0, 2, 3}
		if factor == 0 {
			multiple, sum = []int{1}, []int{2, 3}
		}
		circuitIs(t, k, 1, []int{0}, multiple, true)
		circuitIs(t, k, 1, []int{0, 2}, multiple, true)
		circuitIs(t, k, 3, []int{0, 2}, sum, true)
		circuitIs(t, k, 2, []int{0}, nil, false)
	}
}

// A row of noughts is a combination of any rows, of none too.
func TestCircuitOfNoughts(t *testing.T) {
	for _, b := range []int{0, 1, 31, 62, 63} {
		g := noughts(64, 63)
		rows := without(rising(0, 64), b)
		for j, i := range rows {
			row(g, i)[j] = 1
		}
		k := reduced("a row of noughts", g)
		for _, s := range [][]int{nil, rows, rows[:1], rows[62:], rows[10:20]} {
			circuitIs(t, k, b, s, []int{b}, true)
		}
	}
	for b := range 64 {
		circuitIs(t, reduced("no columns", noughts(64, 0)), b, nil, []int{b}, true)
	}
}

// The row with the number 63, as b, in s, as none of both.
func TestCircuitWithTheLastRow(t *testing.T) {
	g := noughts(64, 2)
	copy(row(g, 0), []byte{1, 0})
	copy(row(g, 62), []byte{0, 1})
	copy(row(g, 63), []byte{9, 0})
	k := reduced("few rows", g)
	circuitIs(t, k, 63, []int{0}, []int{0, 63}, true)
	circuitIs(t, k, 63, []int{0, 62}, []int{0, 63}, true)
	circuitIs(t, k, 63, []int{62}, nil, false)
	circuitIs(t, k, 0, []int{63}, []int{0, 63}, true)
	circuitIs(t, k, 0, []int{62, 63}, []int{0, 63}, true)
	circuitIs(t, k, 62, []int{63}, nil, false)
	circuitIs(t, k, 5, []int{62, 63}, []int{5}, true)
}

func circuitIs(t *testing.T, k known, b int, s, want []int, there bool) {
	t.Helper()
	c, ok, e := matroid.Circuit(k.g, b, setOf(s...))
	if c != setOf(want...) || ok != there || e != api.OK {
		t.Errorf("Circuit of %s, %d x %d, of %d and %d = %#x, %v, %v, want %d, %v", k.name, k.g.Rows, k.g.Cols, b, s, c, ok, e, want, there)
	}
}

func circuitFails(t *testing.T, g api.Matrix, b int, s api.Set, want api.Errno) {
	t.Helper()
	if c, ok, e := matroid.Circuit(g, b, s); c != 0 || ok || e != want {
		t.Errorf("Circuit of %d x %d, of %d and %#x = %#x, %v, %v, want %v", g.Rows, g.Cols, b, s, c, ok, e, want)
	}
}
