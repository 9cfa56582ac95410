package gauss_test

import (
	"slices"

	"recoup/api"
)

// The matrices here are put together so that what the package must find out
// about them is known beforehand, without rows being reduced.

// known is a matrix, m, that is the product of one that has an inverse, mix,
// and one that is reduced.
type known struct {
	m, mix, reduced api.Matrix
	pivots, free    []int
}

// knownOf is such a matrix of these sides and of this rank.
func knownOf(rows, cols, rank, seed int) known {
	from := seeded(seed)
	var k known
	k.pivots = places(from, cols, rank)
	for j := range cols {
		if !slices.Contains(k.pivots, j) {
			k.free = append(k.free, j)
		}
	}
	k.reduced = slow(rows, cols, func(i, j int) byte {
		switch {
		case i >= rank || j < k.pivots[i]:
			return 0
		case j == k.pivots[i]:
			return 1
		case slices.Contains(k.pivots, j):
			return 0
		}
		return from.element()
	})
	k.mix = invertible(rows, seed)
	k.m = slowMul(k.mix, k.reduced)
	return k
}

// allKnown are such matrices of all pairs of sides, of some ranks each.
func allKnown(seed int) []known {
	var all []known
	for _, rows := range sides() {
		for _, cols := range sides() {
			for _, rank := range ranks(rows, cols) {
				all = append(all, knownOf(rows, cols, rank, seed))
			}
		}
	}
	return all
}

// places are count of the places from 0 to ahead of n, rising.
func places(from *source, n, count int) []int {
	var chosen []int
	for place := range n {
		missing := count - len(chosen)
		if from.below(n-place) < missing {
			chosen = append(chosen, place)
		}
	}
	return chosen
}

// invertible has an inverse: it is a product of two that have one, being 0 on
// one side of where the row is the column, and not 0 there, and its rows are
// turned about.
func invertible(n, seed int) api.Matrix {
	from := seeded(seed + 1000)
	lower := slow(n, n, func(i, j int) byte {
		switch {
		case j > i:
			return 0
		case j == i:
			return 1
		}
		return from.element()
	})
	upper := slow(n, n, func(i, j int) byte {
		switch {
		case j < i:
			return 0
		case j == i:
			return from.notZero()
		}
		return from.element()
	})
	product := slowMul(lower, upper)
	for i := n - 1; i > 0; i-- {
		exchangeRows(product, i, from.below(i+1))
	}
	return product
}

func exchangeRows(m api.Matrix, i, k int) {
	for j := range m.Cols {
		m.Data[i*m.Cols+j], m.Data[k*m.Cols+j] = m.Data[k*m.Cols+j], m.Data[i*m.Cols+j]
	}
}

// layered is a matrix, m, some rows of which, first, are no combinations of
// those above, while all others are; and a row that is no combination of all
// of them, if there is one.
type layered struct {
	m       api.Matrix
	first   []int
	another []byte
}

// layeredOf is such a matrix of these sides and of this rank.
func layeredOf(rows, cols, rank, seed int) layered {
	from := seeded(seed)
	independent := invertible(cols, seed)
	var l layered
	l.first = places(from, rows, rank)
	l.m = noughts(rows, cols)
	fresh := 0
	for i := range rows {
		if slices.Contains(l.first, i) {
			copy(row(l.m, i), row(independent, fresh))
			fresh++
		}
		// One that is no combination stays so, whatever is put to it of those
		// above.
		factors := make([]byte, rows)
		for k := range i {
			factors[k] = from.element()
		}
		copy(row(l.m, i), slowSum(row(l.m, i), slowCombination(factors, l.m)))
	}
	if rank < cols {
		l.another = row(independent, rank)
	}
	return l
}

// allLayered are such matrices of all pairs of sides, of some ranks each.
func allLayered(seed int) []layered {
	var all []layered
	for _, rows := range sides() {
		for _, cols := range sides() {
			for _, rank := range ranks(rows, cols) {
				all = append(all, layeredOf(rows, cols, rank, seed))
			}
		}
	}
	return all
}

// withNoughts is a list of this length that is 0 but at these places.
func withNoughts(length int, places []int, from *source) []byte {
	made := make([]byte, length)
	for _, place := range places {
		made[place] = from.element()
	}
	return roomy(made)
}
