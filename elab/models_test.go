package elab_test

import (
	"bytes"
	"fmt"
	"slices"

	"recoup/api"
)

// What the tests hold the package against: generators made entry by entry,
// groups made number by number, ranks found row by row, homes by going from
// domain to domain. None of it asks the project's packages.

// slow makes a matrix by its entries, one by one.
func slow(rows, cols int, at func(i, j int) byte) api.Matrix {
	made := make([]byte, 0, rows*cols)
	for i := range rows {
		for j := range cols {
			made = append(made, at(i, j))
		}
	}
	return api.Matrix{Rows: rows, Cols: cols, Data: made}
}

// of is a matrix of so many columns by its entries.
func of(cols int, entries ...byte) api.Matrix {
	return api.Matrix{Rows: len(entries) / cols, Cols: cols, Data: entries}
}

func identity(n int) api.Matrix {
	return slow(n, n, func(i, j int) byte { return oneIf(i == j) })
}

func noughts(rows, cols int) api.Matrix {
	return slow(rows, cols, func(_, _ int) byte { return 0 })
}

func oneIf(yes bool) byte {
	if yes {
		return 1
	}
	return 0
}

func entry(m api.Matrix, i, j int) byte {
	return m.Data[i*m.Cols+j]
}

func picked(m api.Matrix, rows []int) api.Matrix {
	return slow(len(rows), m.Cols, func(i, j int) byte { return entry(m, rows[i], j) })
}

// slowTimes multiplies two elements as numbers of 16 bits and takes the
// remainder by 0x11d from the top down.
func slowTimes(a, b byte) byte {
	wide := 0
	for i := range 8 {
		if b>>i&1 == 1 {
			wide ^= int(a) << i
		}
	}
	for bit := 15; bit >= 8; bit-- {
		if wide>>bit&1 == 1 {
			wide ^= 0x11d << (bit - 8)
		}
	}
	return byte(wide)
}

// products keeps all products, each at [a][b]: the tests ask for many.
var products = func() (all [256][256]byte) {
	for a := range all {
		for b := range all[a] {
			all[a][b] = slowTimes(byte(a), byte(b))
		}
	}
	return all
}()

// inverses keeps those of all elements but 0.
var inverses = func() (all [256]byte) {
	for a := 1; a < 256; a++ {
		all[a] = byte(bytes.IndexByte(products[a][:], 1))
	}
	return all
}()

func slowMul(a, b api.Matrix) api.Matrix {
	return slow(a.Rows, b.Cols, func(i, j int) byte {
		var sum byte
		for k := range a.Cols {
			sum ^= products[entry(a, i, k)][entry(b, k, j)]
		}
		return sum
	})
}

// slowRank takes one row after the other out of a list: one that is not all
// noughts clears a column of those that are left.
func slowRank(m api.Matrix) int {
	var left [][]byte
	for i := range m.Rows {
		left = append(left, bytes.Clone(m.Data[i*m.Cols:(i+1)*m.Cols]))
	}
	rank := 0
	for len(left) > 0 {
		taken := left[len(left)-1]
		left = left[:len(left)-1]
		at := slices.IndexFunc(taken, func(element byte) bool { return element != 0 })
		if at < 0 {
			continue
		}
		rank++
		for _, other := range left {
			factor := products[inverses[taken[at]]][other[at]]
			for j := range other {
				other[j] ^= products[factor][taken[j]]
			}
		}
	}
	return rank
}

// set is the set of some numbers, each told once.
func set(numbers ...int) api.Set {
	var sum api.Set
	for _, number := range numbers {
		power := api.Set(1)
		for range number {
			power += power
		}
		sum += power
	}
	return sum
}

// numbersOf are those that a set has, rising.
func numbersOf(s api.Set) []int {
	var made []int
	for number := 0; s > 0; number++ {
		if s%2 == 1 {
			made = append(made, number)
		}
		s /= 2
	}
	return made
}

// code is a code by its matrix and its groups.
func code(g api.Matrix, groups ...api.Set) api.Code {
	return api.Code{G: g, Groups: groups}
}

// slowReed tells of each block what a polynomial is at its number that has the
// data as its values at the numbers of the data blocks.
func slowReed(k, m int) api.Code {
	return code(slow(k+m, k, func(i, c int) byte {
		made := byte(1)
		for d := range k {
			if d != c {
				made = products[made][products[byte(i^d)][inverses[c^d]]]
			}
		}
		return made
	}))
}

func slowCross(k, m int) api.Code {
	return code(slow(k+m, k, func(i, j int) byte {
		if i < k {
			return oneIf(i == j)
		}
		return inverses[i^j]
	}))
}

// slowPortions is a code of portions: first tells the entries of the rows of
// the portions where these are, then those of the last rows.
func slowPortions(k, l, m int, first func(j int) byte, then func(i, j int) byte) api.Code {
	size := k / l
	made := code(slow(k+l+m, k, func(i, j int) byte {
		switch {
		case i < k:
			return oneIf(i == j)
		case i >= k+l:
			return then(i-k-l, j)
		case j/size == i-k:
			return first(j)
		}
		return 0
	}))
	for portion := range l {
		blocks := []int{k + portion}
		for i := range size {
			blocks = append(blocks, portion*size+i)
		}
		made.Groups = append(made.Groups, set(blocks...))
	}
	return made
}

func slowLocal(k, l, m int) api.Code {
	return slowPortions(k, l, m, func(int) byte { return 1 }, func(i, j int) byte { return inverses[(k+i)^j] })
}

func slowPyramid(k, l, m int) api.Code {
	return slowPortions(k, l, m, func(j int) byte { return inverses[k^j] }, func(i, j int) byte { return inverses[(k+1+i)^j] })
}

// slowMoved are the blocks of a group, each times factor, and more put to it.
func slowMoved(group api.Set, factor, more int) api.Set {
	var blocks []int
	for _, i := range numbersOf(group) {
		blocks = append(blocks, i*factor+more)
	}
	return set(blocks...)
}

func slowProduct(a, b api.Code) api.Code {
	made := code(slow(a.G.Rows*b.G.Rows, a.G.Cols*b.G.Cols, func(i, j int) byte {
		return products[entry(a.G, i/b.G.Rows, j/b.G.Cols)][entry(b.G, i%b.G.Rows, j%b.G.Cols)]
	}))
	for _, group := range a.Groups {
		for j := range b.G.Rows {
			made.Groups = append(made.Groups, slowMoved(group, b.G.Rows, j))
		}
	}
	for i := range a.G.Rows {
		for _, group := range b.Groups {
			made.Groups = append(made.Groups, slowMoved(group, 1, i*b.G.Rows))
		}
	}
	return made
}

func slowJoin(a, b api.Code) api.Code {
	made := code(slow(a.G.Rows+b.G.Rows, a.G.Cols+b.G.Cols, func(i, j int) byte {
		switch {
		case i < a.G.Rows && j < a.G.Cols:
			return entry(a.G, i, j)
		case i >= a.G.Rows && j >= a.G.Cols:
			return entry(b.G, i-a.G.Rows, j-a.G.Cols)
		}
		return 0
	}))
	made.Groups = append(made.Groups, a.Groups...)
	for _, group := range b.Groups {
		made.Groups = append(made.Groups, slowMoved(group, 1, a.G.Rows))
	}
	return made
}

// slowCodes are the codes of a core that may be.
func slowCodes(c api.Core) []api.Code {
	made := make([]api.Code, len(c.Codes))
	for i, l := range c.Codes {
		switch l.Kind {
		case api.SReed:
			made[i] = slowReed(l.A, l.B)
		case api.SCross:
			made[i] = slowCross(l.A, l.B)
		case api.SLocal:
			made[i] = slowLocal(l.A, l.B, l.C)
		case api.SPyramid:
			made[i] = slowPyramid(l.A, l.B, l.C)
		case api.SProduct:
			made[i] = slowProduct(made[l.A], made[l.B])
		case api.SJoin:
			made[i] = slowJoin(made[l.A], made[l.B])
		case api.SMatrix:
			made[i] = code(l.G)
		}
	}
	return made
}

// slowHomes goes from block to block, and from domain to domain.
func slowHomes(c api.Core, blocks int) []int {
	made := make([]int, blocks)
	for b := range blocks {
		switch c.Place {
		case api.PRow:
			if b > 0 && made[b-1]+1 < c.Domains {
				made[b] = made[b-1] + 1
			}
		case api.PSpread:
			// The last domain whose share begins at the block, or ahead of it.
			for d := range c.Domains {
				if d*blocks <= b*c.Domains {
					made[b] = d
				}
			}
		case api.PSpiral:
			if b > 0 {
				made[b] = int((uint64(made[b-1]) + uint64(c.Step)) % uint64(c.Domains))
			}
		case api.PList:
			made[b] = c.List[b]
		}
	}
	return made
}

// slowBuild is the layout of a core that may be, or ErrSingular.
func slowBuild(c api.Core) (api.Layout, api.Errno) {
	used := slowCodes(c)[c.Use]
	if slowRank(used.G) < used.G.Cols {
		return api.Layout{}, api.ErrSingular
	}
	return api.Layout{Code: used, Homes: slowHomes(c, used.G.Rows), Domains: c.Domains, Tolerate: c.Tolerate}, api.OK
}

// sets are how many sets of n have at most t numbers, by Pascal's triangle; of
// those beyond a million some million.
func sets(n, t int) int {
	row := []int{1}
	for range n {
		next := []int{1}
		for i := range row[1:] {
			next = append(next, min(1000000, row[i]+row[i+1]))
		}
		row = append(next, 1)
	}
	sum := 0
	for _, of := range row[:min(t, n)+1] {
		sum += of
	}
	return sum
}

// slowHangs asks of each block of a group whether its row leaves the rank of
// the others' rows as it is.
func slowHangs(g api.Matrix, group []int) bool {
	for _, i := range group {
		if i >= g.Rows {
			return false
		}
	}
	for at := range group {
		others := slices.Delete(slices.Clone(group), at, at+1)
		if slowRank(picked(g, group)) != slowRank(picked(g, others)) {
			return false
		}
	}
	return true
}

// slowMay asks of a layout what the document does, one thing after the other.
func slowMay(l api.Layout) bool {
	g := l.Code.G
	if g.Cols < 1 || g.Rows < g.Cols || g.Rows > 64 || len(g.Data) != g.Rows*g.Cols || slowRank(g) != g.Cols {
		return false
	}
	for _, group := range l.Code.Groups {
		if !slowHangs(g, numbersOf(group)) {
			return false
		}
	}
	if len(l.Homes) != g.Rows || l.Domains < 1 || l.Domains > 64 {
		return false
	}
	if slices.Min(l.Homes) < 0 || slices.Max(l.Homes) >= l.Domains {
		return false
	}
	return l.Tolerate >= 0 && l.Tolerate <= g.Rows && sets(g.Rows, l.Tolerate) <= 16384
}

// shown is all that a value says; lists that are nil and such without elements
// are shown alike.
func shown(v any) string { return fmt.Sprintf("%+v", v) }

// short keeps what a test tells readable.
func short(text string) string {
	if len(text) > 500 {
		return text[:500] + " .."
	}
	return text
}
