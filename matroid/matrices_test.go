package matroid_test

import (
	"bytes"
	"math"
	"slices"

	"recoup/api"
)

// behind fills the room behind the end of a list that is handed in.
const behind = 0xa5

// source tells numbers by a simple rule that differs from seed to seed.
type source struct {
	state uint32
}

func seeded(seed int) *source {
	return &source{uint32(seed)*2654435761 + 12345}
}

// below is a number from 0 to ahead of n.
func (s *source) below(n int) int {
	s.state = s.state*1664525 + 1013904223
	return int(s.state>>16) % n
}

func (s *source) element() byte {
	return byte(s.below(256))
}

func (s *source) notZero() byte {
	return byte(1 + s.below(255))
}

// chosen is a rising list of count numbers below n.
func (s *source) chosen(n, count int) []int {
	var made []int
	for number := range n {
		if s.below(n-number) < count-len(made) {
			made = append(made, number)
		}
	}
	return made
}

// shuffled are the numbers below n, in any order.
func (s *source) shuffled(n int) []int {
	made := rising(0, n)
	for i := n - 1; i > 0; i-- {
		k := s.below(i + 1)
		made[i], made[k] = made[k], made[i]
	}
	return made
}

// rising are the numbers from one on to ahead of another.
func rising(from, to int) []int {
	var made []int
	for number := from; number < to; number++ {
		made = append(made, number)
	}
	return made
}

// setOf is the set of a list's numbers, which it has once each.
func setOf(list ...int) api.Set {
	var sum api.Set
	for _, number := range list {
		power := api.Set(1)
		for range number {
			power += power
		}
		sum += power
	}
	return sum
}

// with and without are a rising list and a number more, or one less.
func with(list []int, number int) []int {
	if slices.Contains(list, number) {
		return list
	}
	return slices.Sorted(slices.Values(append(slices.Clone(list), number)))
}

func without(list []int, number int) []int {
	return slices.DeleteFunc(slices.Clone(list), func(other int) bool { return other == number })
}

// roomy is a list with room behind its end.
func roomy(list []byte) []byte {
	room := bytes.Repeat([]byte{behind}, len(list)+8)
	copy(room, list)
	return room[:len(list)]
}

// list makes length elements, with room behind its end.
func list(length, seed int) []byte {
	from := seeded(seed)
	made := make([]byte, length)
	for i := range made {
		made[i] = from.element()
	}
	return roomy(made)
}

// filled is a matrix of such elements.
func filled(rows, cols, seed int) api.Matrix {
	return api.Matrix{Rows: rows, Cols: cols, Data: list(rows*cols, seed)}
}

// of is a matrix of so many columns by its entries.
func of(cols int, entries ...byte) api.Matrix {
	return api.Matrix{Rows: len(entries) / cols, Cols: cols, Data: roomy(entries)}
}

// slow makes a matrix by its entries, one by one.
func slow(rows, cols int, at func(i, j int) byte) api.Matrix {
	made := make([]byte, 0, rows*cols)
	for i := range rows {
		for j := range cols {
			made = append(made, at(i, j))
		}
	}
	return api.Matrix{Rows: rows, Cols: cols, Data: roomy(made)}
}

func noughts(rows, cols int) api.Matrix {
	return slow(rows, cols, func(_, _ int) byte { return 0 })
}

func identity(n int) api.Matrix {
	return slow(n, n, func(i, j int) byte {
		if i == j {
			return 1
		}
		return 0
	})
}

// entry is m's (i, j), as the document counts them.
func entry(m api.Matrix, i, j int) byte {
	return m.Data[i*m.Cols+j]
}

func row(m api.Matrix, i int) []byte {
	return m.Data[i*m.Cols : (i+1)*m.Cols]
}

func picked(m api.Matrix, rows []int) api.Matrix {
	return slow(len(rows), m.Cols, func(i, j int) byte { return entry(m, rows[i], j) })
}

// slowTimes multiplies two elements as numbers of 16 bits and takes the
// remainder by 0x11d from the top down.
func slowTimes(a, b byte) byte {
	wide := 0
	for i := range 8 {
		if b>>i&1 == 1 {
			wide ^= int(a) << i
		}
	}
	for bit := 15; bit >= 8; bit-- {
		if wide>>bit&1 == 1 {
			wide ^= 0x11d << (bit - 8)
		}
	}
	return byte(wide)
}

// products keeps all products, each at [a][b]: the tests ask for many.
var products = func() (all [256][256]byte) {
	for a := range all {
		for b := range all[a] {
			all[a][b] = slowTimes(byte(a), byte(b))
		}
	}
	return all
}()

func slowMul(a, b api.Matrix) api.Matrix {
	return slow(a.Rows, b.Cols, func(i, j int) byte {
		var sum byte
		for k := range a.Cols {
			sum ^= products[entry(a, i, k)][entry(b, k, j)]
		}
		return sum
	})
}

// slowCombination is the sum of m's rows, so many times each.
func slowCombination(factors []byte, m api.Matrix) []byte {
	return slowMul(api.Matrix{Rows: 1, Cols: len(factors), Data: factors}, m).Data
}

// slowRank takes one row after the other out of a list: one that is not all
// noughts clears a column of those that are left.
func slowRank(m api.Matrix) int {
	var left [][]byte
	for i := range m.Rows {
		left = append(left, bytes.Clone(row(m, i)))
	}
	rank := 0
	for len(left) > 0 {
		taken := left[len(left)-1]
		left = left[:len(left)-1]
		at := slices.IndexFunc(taken, func(element byte) bool { return element != 0 })
		if at < 0 {
			continue
		}
		rank++
		inverse := bytes.IndexByte(products[taken[at]][:], 1)
		for _, other := range left {
			factor := products[inverse][other[at]]
			for j := range other {
				other[j] ^= products[factor][taken[j]]
			}
		}
	}
	return rank
}

// invertible has an inverse: it is a product of two that have one, being 0 on
// one side of where the row is the column, and not 0 there, and its rows are
// turned about.
func invertible(n, seed int) api.Matrix {
	from := seeded(seed + 1000)
	lower := slow(n, n, func(i, j int) byte {
		switch {
		case j > i:
			return 0
		case j == i:
			return 1
		}
		return from.element()
	})
	upper := slow(n, n, func(i, j int) byte {
		switch {
		case j < i:
			return 0
		case j == i:
			return from.notZero()
		}
		return from.element()
	})
	return picked(slowMul(lower, upper), from.shuffled(n))
}

// wrong are matrices that are not right: by a side, by both, by Data.
func wrong() []api.Matrix {
	matrices := []api.Matrix{
		{Rows: -1, Cols: -4, Data: list(4, 1)},
		{Rows: -2, Cols: -2, Data: list(4, 1)},
		{Rows: 65, Cols: 65, Data: list(65*65, 1)},
		{Rows: 65, Cols: 65, Data: make([]byte, 65*65)},
		{Rows: 65, Cols: 1, Data: list(65, 1)},
		{Rows: 1, Cols: 65, Data: list(65, 1)},
		// Sides whose product comes round to 0, or to 1.
		{Rows: math.MinInt, Cols: 2},
		{Rows: 2, Cols: math.MinInt},
		{Rows: 1 << 32, Cols: 1 << 32},
		{Rows: math.MaxInt, Cols: math.MaxInt, Data: list(1, 1)},
	}
	for _, n := range []int{-1, -64, math.MinInt, 65, 4096, math.MaxInt32, math.MaxInt} {
		matrices = append(matrices, api.Matrix{Rows: n}, api.Matrix{Cols: n}, api.Matrix{Rows: n, Cols: n})
	}
	for _, side := range []int{0, 1, 2, 3, 5, 8, 63, 64} {
		matrices = append(matrices,
			api.Matrix{Rows: side, Cols: side, Data: list(side*side+1, 1)},
			api.Matrix{Rows: side, Cols: side, Data: make([]byte, side*side+1)},
			api.Matrix{Rows: 0, Cols: side, Data: list(side+1, 1)},
			api.Matrix{Rows: side, Cols: 0, Data: list(side+1, 1)})
		if side > 0 {
			matrices = append(matrices,
				api.Matrix{Rows: side, Cols: side, Data: list(side*side-1, 1)},
				api.Matrix{Rows: side, Cols: 1})
		}
	}
	return matrices
}
