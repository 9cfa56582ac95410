package survey_test

import (
	"bytes"
	"fmt"
	"iter"
	"slices"

	"recoup/api"
)

// What the tests hold the package against: products made bit by bit, rows
// taken out of one another one by one, sets as lists in the order of the words,
// the spiral walked with whole numbers. None of it asks the project's packages.

// slow makes a matrix by its entries, one by one.
func slow(rows, cols int, at func(i, j int) byte) api.Matrix {
	made := make([]byte, 0, rows*cols)
	for i := range rows {
		for j := range cols {
			made = append(made, at(i, j))
		}
	}
	return api.Matrix{Rows: rows, Cols: cols, Data: made}
}

// of is a matrix of so many columns by its entries.
func of(cols int, entries ...byte) api.Matrix {
	return api.Matrix{Rows: len(entries) / cols, Cols: cols, Data: entries}
}

func identity(n int) api.Matrix {
	return slow(n, n, func(i, j int) byte { return oneIf(i == j) })
}

func noughts(rows, cols int) api.Matrix {
	return slow(rows, cols, func(_, _ int) byte { return 0 })
}

func oneIf(yes bool) byte {
	if yes {
		return 1
	}
	return 0
}

func row(m api.Matrix, i int) []byte {
	return m.Data[i*m.Cols : (i+1)*m.Cols]
}

// slowTimes multiplies two elements as numbers of 16 bits and takes the
// remainder by 0x11d from the top down.
func slowTimes(a, b byte) byte {
	wide := 0
	for i := range 8 {
		if b>>i&1 == 1 {
			wide ^= int(a) << i
		}
	}
	for bit := 15; bit >= 8; bit-- {
		if wide>>bit&1 == 1 {
			wide ^= 0x11d << (bit - 8)
		}
	}
	return byte(wide)
}

// products keeps all products, each at [a][b]: the tests ask for many.
var products = func() (all [256][256]byte) {
	for a := range all {
		for b := range all[a] {
			all[a][b] = slowTimes(byte(a), byte(b))
		}
	}
	return all
}()

// inverses keeps those of all elements but 0.
var inverses = func() (all [256]byte) {
	for a := 1; a < 256; a++ {
		all[a] = byte(bytes.IndexByte(products[a][:], 1))
	}
	return all
}()

// firstNot is where the first element stands that is not 0; below 0, if there
// is none.
func firstNot(list []byte) int {
	return slices.IndexFunc(list, func(element byte) bool { return element != 0 })
}

// slowRank is the rank of some rows of m: how many are kept, if those that are
// kept already are taken out of each one, and it is kept unless nothing is left.
func slowRank(m api.Matrix, numbers []int) int {
	var kept [][]byte
	for _, number := range numbers {
		left := bytes.Clone(row(m, number))
		for _, taken := range kept {
			at := firstNot(taken)
			times := products[left[at]][inverses[taken[at]]]
			for j := range left {
				left[j] ^= products[times][taken[j]]
			}
		}
		if firstNot(left) >= 0 {
			kept = append(kept, left)
		}
	}
	return len(kept)
}

// slowRecovers asks whether the rows that are left have the full rank.
func slowRecovers(g api.Matrix, lost api.Set) bool {
	return slowRank(g, others(g.Rows, numbersOf(lost))) == g.Cols
}

// slowSets are all lists of so many numbers below n, in the order: those with a
// lesser number at the first place stand ahead, and so on.
func slowSets(n, size int) iter.Seq[[]int] {
	return func(yield func([]int) bool) {
		var on func(made []int, from int) bool
		on = func(made []int, from int) bool {
			if len(made) == size {
				return yield(made)
			}
			for number := from; number <= n-(size-len(made)); number++ {
				if !on(append(made, number), number+1) {
					return false
				}
			}
			return true
		}
		on(make([]int, 0, size), 0)
	}
}

// slowPatterns are the patterns of so many blocks, as they are gone through.
func slowPatterns(blocks, tolerate int) []api.Set {
	var made []api.Set
	for size := range tolerate + 1 {
		for list := range slowSets(blocks, size) {
			made = append(made, set(list...))
		}
	}
	return made
}

// tooMany asks whether there are more than MaxPatterns sets of at most so many
// of some numbers.
func tooMany(numbers, size int) bool {
	line := []int{1}
	for range numbers {
		next := append(slices.Clone(line), 0)
		for i := range line {
			next[i+1] += line[i]
		}
		line = next
	}
	sum := 0
	for _, count := range line[:min(size, numbers)+1] {
		if sum += count; sum > 16384 {
			return true
		}
	}
	return false
}

// slowAisle are those of the first n domains that stand as far to the right as
// d does, the walk being told by the ways it goes: right, up, left, down.
func slowAisle(n, d int) []int {
	var across []int
	at := 0
	for side := 0; len(across) < n; side++ {
		for range side/2 + 1 {
			across = append(across, at)
			at += []int{1, 0, -1, 0}[side%4]
		}
	}
	return slices.DeleteFunc(rising(0, n), func(other int) bool { return across[other] != across[d] })
}

// slowLost are the blocks whose homes are some domains.
func slowLost(homes, domains []int) api.Set {
	var lost []int
	for block, home := range homes {
		if slices.Contains(domains, home) {
			lost = append(lost, block)
		}
	}
	return set(lost...)
}

// slowReport is the report of a layout that may be, by what is said to be
// recovered.
func slowReport(l api.Layout, recovers func(lost api.Set) bool) api.Report {
	var r api.Report
	whole := map[int]bool{}
	for _, lost := range slowPatterns(l.Code.G.Rows, l.Tolerate) {
		r.Looked++
		size := len(numbersOf(lost))
		if _, met := whole[size]; !met {
			whole[size] = true
		}
		if !recovers(lost) {
			r.Fatal = append(r.Fatal, lost)
			whole[size] = false
		}
	}
	for size := range l.Tolerate + 1 {
		if whole[size] {
			r.Tolerance = size
		}
	}
	for d := range l.Domains {
		r.Domains = append(r.Domains, recovers(slowLost(l.Homes, []int{d})))
		r.Aisles = append(r.Aisles, recovers(slowLost(l.Homes, slowAisle(l.Domains, d))))
	}
	return r
}

// slowDistance is what Distance tells of a generator, most being 0 or more.
func slowDistance(g api.Matrix, most int, recovers func(lost api.Set) bool) (int, api.Errno) {
	if tooMany(g.Rows, most) {
		return 0, api.ErrLimit
	}
	if !recovers(0) {
		return 0, api.OK
	}
	for size := range min(most, g.Rows) + 1 {
		for list := range slowSets(g.Rows, size) {
			if !recovers(set(list...)) {
				return size, api.OK
			}
		}
	}
	return 0, api.OK
}

// slowText is a report in lines.
func slowText(r api.Report) string {
	made := fmt.Sprintf("looked %d\ntolerance %d\n", r.Looked, r.Tolerance)
	for _, lost := range r.Fatal {
		made += "fatal"
		for number := range 64 {
			if lost>>number&1 == 1 {
				made += fmt.Sprintf(" %d", number)
			}
		}
		made += "\n"
	}
	for d := 0; d < len(r.Domains) || d < len(r.Aisles); d++ {
		made += fmt.Sprintf("domain %d", d)
		for _, list := range [][]bool{r.Domains, r.Aisles} {
			if len(list) > d && list[d] {
				made += " yes"
			} else {
				made += " no"
			}
		}
		made += "\n"
	}
	return made
}

// set is the set of some numbers, each told once.
func set(numbers ...int) api.Set {
	var sum api.Set
	for _, number := range numbers {
		power := api.Set(1)
		for range number {
			power += power
		}
		sum += power
	}
	return sum
}

// setsOf are the sets of some lists.
func setsOf(lists ...[]int) []api.Set {
	var made []api.Set
	for _, list := range lists {
		made = append(made, set(list...))
	}
	return made
}

// numbersOf are those that a set has, rising.
func numbersOf(s api.Set) []int {
	var made []int
	for number := 0; s > 0; number++ {
		if s%2 == 1 {
			made = append(made, number)
		}
		s /= 2
	}
	return made
}

// rising are the numbers from one on to ahead of another.
func rising(from, to int) []int {
	var made []int
	for number := from; number < to; number++ {
		made = append(made, number)
	}
	return made
}

// others are the numbers below n that a list has not.
func others(n int, list []int) []int {
	return slices.DeleteFunc(rising(0, n), func(i int) bool { return slices.Contains(list, i) })
}
