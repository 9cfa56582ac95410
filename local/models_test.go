package local_test

import (
	"bytes"
	"iter"
	"slices"

	"recoup/api"
)

// What the tests hold the package against: products made bit by bit, rows
// taken out of one another one by one, sets as lists in the order of the words.
// None of it asks the project's packages.

// slow makes a matrix by its entries, one by one.
func slow(rows, cols int, at func(i, j int) byte) api.Matrix {
	made := make([]byte, 0, rows*cols)
	for i := range rows {
		for j := range cols {
			made = append(made, at(i, j))
		}
	}
	return api.Matrix{Rows: rows, Cols: cols, Data: made}
}

// of is a matrix of so many columns by its entries.
func of(cols int, entries ...byte) api.Matrix {
	return api.Matrix{Rows: len(entries) / cols, Cols: cols, Data: entries}
}

func identity(n int) api.Matrix {
	return slow(n, n, func(i, j int) byte { return oneIf(i == j) })
}

func noughts(rows, cols int) api.Matrix {
	return slow(rows, cols, func(_, _ int) byte { return 0 })
}

func oneIf(yes bool) byte {
	if yes {
		return 1
	}
	return 0
}

// entry is m's (i, j), as the document counts them.
func entry(m api.Matrix, i, j int) byte {
	return m.Data[i*m.Cols+j]
}

func row(m api.Matrix, i int) []byte {
	return m.Data[i*m.Cols : (i+1)*m.Cols]
}

func picked(m api.Matrix, rows []int) api.Matrix {
	return slow(len(rows), m.Cols, func(i, j int) byte { return entry(m, rows[i], j) })
}

// stacked are the rows of one matrix, and below them those of another one.
func stacked(a, b api.Matrix) api.Matrix {
	return slow(a.Rows+b.Rows, a.Cols, func(i, j int) byte {
		if i < a.Rows {
			return entry(a, i, j)
		}
		return entry(b, i-a.Rows, j)
	})
}

// slowTimes multiplies two elements as numbers of 16 bits and takes the
// remainder by 0x11d from the top down.
func slowTimes(a, b byte) byte {
	wide := 0
	for i := range 8 {
		if b>>i&1 == 1 {
			wide ^= int(a) << i
		}
	}
	for bit := 15; bit >= 8; bit-- {
		if wide>>bit&1 == 1 {
			wide ^= 0x11d << (bit - 8)
		}
	}
	return byte(wide)
}

// products keeps all products, each at [a][b]: the tests ask for many.
var products = func() (all [256][256]byte) {
	for a := range all {
		for b := range all[a] {
			all[a][b] = slowTimes(byte(a), byte(b))
		}
	}
	return all
}()

// inverses keeps those of all elements but 0.
var inverses = func() (all [256]byte) {
	for a := 1; a < 256; a++ {
		all[a] = byte(bytes.IndexByte(products[a][:], 1))
	}
	return all
}()

func slowMul(a, b api.Matrix) api.Matrix {
	return slow(a.Rows, b.Cols, func(i, j int) byte {
		var sum byte
		for k := range a.Cols {
			sum ^= products[entry(a, i, k)][entry(b, k, j)]
		}
		return sum
	})
}

// putTogether are the rows of m, so many times each, as one row.
func putTogether(m api.Matrix, by []byte) []byte {
	return slowMul(of(len(by), by...), m).Data
}

// takenOut takes a row, so many times, out of another one.
func takenOut(other, taken []byte, times byte) {
	for j := range other {
		other[j] ^= products[times][taken[j]]
	}
}

// firstNot is where the first element stands that is not 0; below 0, if there
// is none.
func firstNot(list []byte) int {
	return slices.IndexFunc(list, func(element byte) bool { return element != 0 })
}

// kept are rows of which none is a combination of those ahead of it: each is 0
// where the first elements of those ahead stand that are not 0.
type kept [][]byte

// rest is what is left of a row when the kept ones are taken out of it.
func (k kept) rest(list []byte) []byte {
	left := bytes.Clone(list)
	for _, taken := range k {
		at := firstNot(taken)
		takenOut(left, taken, products[left[at]][inverses[taken[at]]])
	}
	return left
}

// keptOf are those that are kept of some rows of m, by their numbers.
func keptOf(m api.Matrix, numbers []int) kept {
	var made kept
	for _, number := range numbers {
		if left := made.rest(row(m, number)); firstNot(left) >= 0 {
			made = append(made, left)
		}
	}
	return made
}

// slowRank is the rank of some rows of m.
func slowRank(m api.Matrix, numbers []int) int {
	return len(keptOf(m, numbers))
}

// slowRepairs asks whether these rows, b not among them, come to b's row:
// whether nothing is left of it when they are taken out of it.
func slowRepairs(m api.Matrix, b int, numbers []int) bool {
	return !slices.Contains(numbers, b) && firstNot(keptOf(m, numbers).rest(row(m, b))) < 0
}

// slowSets are all lists of so many of some numbers, which rise, in the order:
// those with a lesser number at the first place stand ahead, and so on.
func slowSets(from []int, size int) iter.Seq[[]int] {
	return func(yield func([]int) bool) {
		var on func(made, from []int) bool
		on = func(made, from []int) bool {
			if len(made) == size {
				return yield(slices.Clone(made))
			}
			for place := range len(from) - (size - len(made)) + 1 {
				if !on(append(made, from[place]), from[place+1:]) {
					return false
				}
			}
			return true
		}
		on(make([]int, 0, size), from)
	}
}

// slowSearch tells the sets of the search for b among so many rows.
func slowSearch(rows, b int) iter.Seq[[]int] {
	return func(yield func([]int) bool) {
		from := others(rows, []int{b})
		for size := range len(from) + 1 {
			for list := range slowSets(from, size) {
				if !yield(list) {
					return
				}
			}
		}
	}
}

// slowLeast is what Least tells, but for the factors.
func slowLeast(g api.Matrix, b int) (reads []int, ok bool, e api.Errno) {
	if !slowRepairs(g, b, others(g.Rows, []int{b})) {
		return nil, false, api.OK
	}
	looked := 0
	for list := range slowSearch(g.Rows, b) {
		if looked++; looked > 16384 {
			break
		}
		if slowRepairs(g, b, list) {
			return list, true, api.OK
		}
	}
	return nil, false, api.ErrLimit
}

// slowCount is how many sets of so many numbers have at most this size.
func slowCount(numbers, size int) int {
	line := []int{1}
	for range numbers {
		next := append(slices.Clone(line), 0)
		for i := range line {
			next[i+1] += line[i]
		}
		line = next
	}
	sum := 0
	for _, count := range line[:min(size, numbers)+1] {
		sum += count
	}
	return sum
}

// slowChoices are all sets of this size that repair b, in their order.
func slowChoices(g api.Matrix, b, size int) [][]int {
	var made [][]int
	for list := range slowSets(others(g.Rows, []int{b}), size) {
		if slowRepairs(g, b, list) {
			made = append(made, list)
		}
	}
	return made
}

// set is the set of some numbers, each told once.
func set(numbers ...int) api.Set {
	var sum api.Set
	for _, number := range numbers {
		power := api.Set(1)
		for range number {
			power += power
		}
		sum += power
	}
	return sum
}

// setsOf are the sets of some lists.
func setsOf(lists [][]int) []api.Set {
	var made []api.Set
	for _, list := range lists {
		made = append(made, set(list...))
	}
	return made
}

// numbersOf are those that a set has, rising.
func numbersOf(s api.Set) []int {
	var made []int
	for number := 0; s > 0; number++ {
		if s%2 == 1 {
			made = append(made, number)
		}
		s /= 2
	}
	return made
}

// rising are the numbers from one on to ahead of another.
func rising(from, to int) []int {
	var made []int
	for number := from; number < to; number++ {
		made = append(made, number)
	}
	return made
}

// others are the numbers below n that a list has not.
func others(n int, list []int) []int {
	return slices.DeleteFunc(rising(0, n), func(i int) bool { return slices.Contains(list, i) })
}
