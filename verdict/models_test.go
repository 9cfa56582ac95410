package verdict_test

import (
	"bytes"
	"slices"

	"recoup/api"
)

// What the tests hold the package against: products made bit by bit, rows
// taken out of one another one by one. None of it asks the project's packages.

// slow makes a matrix by its entries, one by one.
func slow(rows, cols int, at func(i, j int) byte) api.Matrix {
	made := make([]byte, 0, rows*cols)
	for i := range rows {
		for j := range cols {
			made = append(made, at(i, j))
		}
	}
	return api.Matrix{Rows: rows, Cols: cols, Data: made}
}

// of is a matrix of so many columns by its entries.
func of(cols int, entries ...byte) api.Matrix {
	return api.Matrix{Rows: len(entries) / cols, Cols: cols, Data: entries}
}

func identity(n int) api.Matrix {
	return slow(n, n, func(i, j int) byte { return oneIf(i == j) })
}

func noughts(rows, cols int) api.Matrix {
	return slow(rows, cols, func(_, _ int) byte { return 0 })
}

func oneIf(yes bool) byte {
	if yes {
		return 1
	}
	return 0
}

// entry is m's (i, j), as the document counts them.
func entry(m api.Matrix, i, j int) byte {
	return m.Data[i*m.Cols+j]
}

func row(m api.Matrix, i int) []byte {
	return m.Data[i*m.Cols : (i+1)*m.Cols]
}

func picked(m api.Matrix, rows []int) api.Matrix {
	return slow(len(rows), m.Cols, func(i, j int) byte { return entry(m, rows[i], j) })
}

// stacked are the rows of one matrix, and below them those of another one.
func stacked(a, b api.Matrix) api.Matrix {
	return slow(a.Rows+b.Rows, a.Cols, func(i, j int) byte {
		if i < a.Rows {
			return entry(a, i, j)
		}
		return entry(b, i-a.Rows, j)
	})
}

func alike(a, b api.Matrix) bool {
	return a.Rows == b.Rows && a.Cols == b.Cols && bytes.Equal(a.Data, b.Data)
}

// slowTimes multiplies two elements as numbers of 16 bits and takes the
// remainder by 0x11d from the top down.
func slowTimes(a, b byte) byte {
	wide := 0
	for i := range 8 {
		if b>>i&1 == 1 {
			wide ^= int(a) << i
		}
	}
	for bit := 15; bit >= 8; bit-- {
		if wide>>bit&1 == 1 {
			wide ^= 0x11d << (bit - 8)
		}
	}
	return byte(wide)
}

// products keeps all products, each at [a][b]: the tests ask for many.
var products = func() (all [256][256]byte) {
	for a := range all {
		for b := range all[a] {
			all[a][b] = slowTimes(byte(a), byte(b))
		}
	}
	return all
}()

// inverses keeps those of all elements but 0.
var inverses = func() (all [256]byte) {
	for a := 1; a < 256; a++ {
		all[a] = byte(bytes.IndexByte(products[a][:], 1))
	}
	return all
}()

func slowMul(a, b api.Matrix) api.Matrix {
	return slow(a.Rows, b.Cols, func(i, j int) byte {
		var sum byte
		for k := range a.Cols {
			sum ^= products[entry(a, i, k)][entry(b, k, j)]
		}
		return sum
	})
}

// slowApply makes of each row its sum with a list.
func slowApply(m api.Matrix, x []byte) []byte {
	return slowMul(m, api.Matrix{Rows: len(x), Cols: 1, Data: x}).Data
}

// takenOut takes a row, so many times, out of another one.
func takenOut(other, taken []byte, times byte) {
	for j := range other {
		other[j] ^= products[times][taken[j]]
	}
}

// firstNot is where the first element stands that is not 0; below 0, if there
// is none.
func firstNot(list []byte) int {
	return slices.IndexFunc(list, func(element byte) bool { return element != 0 })
}

// slowFirst are those of some rows of m, by their numbers, that are no
// combination of those named before them: one is, if nothing is left of it
// when those are taken out of it.
func slowFirst(m api.Matrix, numbers []int) []int {
	var kept [][]byte
	var first []int
	for _, number := range numbers {
		rest := bytes.Clone(row(m, number))
		for _, taken := range kept {
			at := firstNot(taken)
			takenOut(rest, taken, products[rest[at]][inverses[taken[at]]])
		}
		if firstNot(rest) >= 0 {
			kept, first = append(kept, rest), append(first, number)
		}
	}
	return first
}

// slowRank is how many rows of m are no combination of those above them.
func slowRank(m api.Matrix) int {
	return len(slowFirst(m, rising(0, m.Rows)))
}

// slowNothing is a list of data, not all 0, of which m makes nothing but
// noughts: a column that is a combination of others has its factors in it.
func slowNothing(m api.Matrix) (x []byte, ok bool) {
	turned := slow(m.Cols, m.Rows, func(i, j int) byte { return entry(m, j, i) })
	factors := identity(m.Cols)
	for i := range turned.Rows {
		at := firstNot(row(turned, i))
		if at < 0 {
			return row(factors, i), true
		}
		for other := i + 1; other < turned.Rows; other++ {
			times := products[entry(turned, other, at)][inverses[entry(turned, i, at)]]
			takenOut(row(turned, other), row(turned, i), times)
			takenOut(row(factors, other), row(factors, i), times)
		}
	}
	return nil, false
}

// slowSources are the sources, and whether lost blocks are recovered.
func slowSources(g api.Matrix, lost []int) (sources []int, ok bool) {
	sources = slowFirst(g, others(g.Rows, lost))
	return sources, len(sources) == g.Cols
}

// set is the set of some numbers, each told once.
func set(numbers ...int) api.Set {
	var sum api.Set
	for _, number := range numbers {
		power := api.Set(1)
		for range number {
			power += power
		}
		sum += power
	}
	return sum
}

// numbersOf are those that a set has, rising.
func numbersOf(s api.Set) []int {
	var made []int
	for number := 0; s > 0; number++ {
		if s%2 == 1 {
			made = append(made, number)
		}
		s /= 2
	}
	return made
}

// rising are the numbers from one on to ahead of another.
func rising(from, to int) []int {
	var made []int
	for number := from; number < to; number++ {
		made = append(made, number)
	}
	return made
}

// others are the numbers below n that a list has not.
func others(n int, list []int) []int {
	return slices.DeleteFunc(rising(0, n), func(i int) bool { return slices.Contains(list, i) })
}
