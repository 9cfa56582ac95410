package build_test

import (
	"bytes"
	"slices"

	"recoup/api"
)

// The matrices here are put together so that what the package must find out
// about them is known beforehand.

// places are count of the places from 0 to ahead of n, rising.
func places(from *source, n, count int) []int {
	var chosen []int
	for place := range n {
		missing := count - len(chosen)
		if from.below(n-place) < missing {
			chosen = append(chosen, place)
		}
	}
	return chosen
}

// invertible has an inverse: it is a product of two that have one, being 0 on
// one side of where the row is the column, and not 0 there.
func invertible(n, seed int) api.Matrix {
	from := seeded(seed + 1000)
	lower := slow(n, n, func(i, j int) byte {
		switch {
		case j > i:
			return 0
		case j == i:
			return 1
		}
		return from.element()
	})
	upper := slow(n, n, func(i, j int) byte {
		switch {
		case j < i:
			return 0
		case j == i:
			return from.notZero()
		}
		return from.element()
	})
	return slowMul(lower, upper)
}

// singular has n rows and n columns, and a rank that is one less: one of its
// rows is a combination of the others.
func singular(n, seed int) api.Matrix {
	from := seeded(seed)
	m := invertible(n, seed)
	at := from.below(n)
	factors := list(n, seed)
	factors[at] = 0
	copy(row(m, at), slowCombination(factors, m))
	return m
}

// systematic has the identity on top and anything below.
func systematic(rows, cols, seed int) api.Matrix {
	return stacked(identity(cols), filled(rows-cols, cols, seed))
}

func stacked(a, b api.Matrix) api.Matrix {
	return slow(a.Rows+b.Rows, a.Cols, func(i, j int) byte {
		if i < a.Rows {
			return entry(a, i, j)
		}
		return entry(b, i-a.Rows, j)
	})
}

// layered is a matrix, m, some rows of which, first, are no combinations of
// those above, while all others, which are the rest, are.
type layered struct {
	m           api.Matrix
	first, rest []int
}

// layeredOf is such a matrix of these sides and of this rank.
func layeredOf(rows, cols, rank, seed int) layered {
	from := seeded(seed)
	independent := invertible(cols, seed)
	l := layered{m: noughts(rows, cols), first: places(from, rows, rank)}
	fresh := 0
	for i := range rows {
		if slices.Contains(l.first, i) {
			copy(row(l.m, i), row(independent, fresh))
			fresh++
		} else {
			l.rest = append(l.rest, i)
		}
		factors := make([]byte, rows)
		for k := range i {
			factors[k] = from.element()
		}
		copy(row(l.m, i), slowSum(row(l.m, i), slowCombination(factors, l.m)))
	}
	return l
}

// slowPower multiplies one by one.
func slowPower(element byte, exponent int) byte {
	power := byte(1)
	for range exponent {
		power = products[power][element]
	}
	return power
}

func slowVandermonde(rows, cols int) api.Matrix {
	return slow(rows, cols, func(i, j int) byte { return slowPower(byte(i), j) })
}

// slowInverse looks through all elements. It is for what is not 0.
func slowInverse(element byte) byte {
	return byte(bytes.IndexByte(products[element][:], 1))
}

func slowCauchy(xs, ys []byte) api.Matrix {
	return slow(len(xs), len(ys), func(i, j int) byte { return slowInverse(xs[i] ^ ys[j]) })
}

// picked are those rows of m, at any number of sides.
func picked(m api.Matrix, rows []int) api.Matrix {
	return slow(len(rows), m.Cols, func(i, j int) byte { return entry(m, rows[i], j) })
}

// slowRank takes one row after the other out of a list: one that is not all
// noughts clears a column of those that are left.
func slowRank(m api.Matrix) int {
	var left [][]byte
	for i := range m.Rows {
		left = append(left, bytes.Clone(row(m, i)))
	}
	rank := 0
	for len(left) > 0 {
		taken := left[len(left)-1]
		left = left[:len(left)-1]
		at := slices.IndexFunc(taken, func(element byte) bool { return element != 0 })
		if at < 0 {
			continue
		}
		rank++
		inverse := slowInverse(taken[at])
		for _, other := range left {
			factor := products[inverse][other[at]]
			for j := range other {
				other[j] ^= products[factor][taken[j]]
			}
		}
	}
	return rank
}

// slowChoices are all choices of count numbers below n, by the numbers that
// have count bits.
func slowChoices(n, count int) [][]int {
	var all [][]int
	for bits := range 1 << n {
		var chosen []int
		for i := range n {
			if bits>>i&1 == 1 {
				chosen = append(chosen, i)
			}
		}
		if len(chosen) == count {
			all = append(all, chosen)
		}
	}
	return all
}

// counts are how many choices of k out of n there are, each at [n][k], none of
// them greater than the bound.
func counts(bound int) [65][65]int {
	var all [65][65]int
	for n := range all {
		all[n][0] = 1
		for k := 1; k <= n; k++ {
			all[n][k] = min(all[n-1][k-1]+all[n-1][k], bound)
		}
	}
	return all
}

// shuffled are all elements, turned about.
func shuffled(seed int) []byte {
	from := seeded(seed)
	all := make([]byte, 256)
	for i := range all {
		all[i] = byte(i)
	}
	for i := len(all) - 1; i > 0; i-- {
		k := from.below(i + 1)
		all[i], all[k] = all[k], all[i]
	}
	return all
}

// rising are the elements from one on, so many of them.
func rising(from, count int) []byte {
	made := make([]byte, count)
	for i := range made {
		made[i] = byte(from + i)
	}
	return roomy(made)
}

// codes are the pairs of data blocks and of further ones that tests go
// through: all small ones, and all that have nearly as many or just as many
// blocks as may be.
func codes() [][2]int {
	var all [][2]int
	for _, blocks := range []int{1, 2, 3, 4, 5, 6, 7, 8, 9, 10, 11, 12, 63, api.MaxSide} {
		for k := 1; k <= blocks; k++ {
			all = append(all, [2]int{k, blocks - k})
		}
	}
	return all
}
