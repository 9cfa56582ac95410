package shape_test

import (
	"bytes"
	"math"
	"slices"

	"recoup/api"
)

// What the tests hold the package against: matrices made entry by entry, sets
// made number by number, ranks found row by row. None of it asks the project's
// packages.

// behind fills the room behind the end of a list of bytes that is handed in.
const behind = 0xa5

// source tells numbers by a simple rule that differs from seed to seed.
type source struct {
	state uint32
}

func seeded(seed int) *source {
	return &source{uint32(seed)*2654435761 + 12345}
}

// below is a number from 0 to ahead of n.
func (s *source) below(n int) int {
	s.state = s.state*1664525 + 1013904223
	return int(s.state>>16) % n
}

func (s *source) element() byte {
	return byte(s.below(256))
}

// roomy is a list with room behind its end.
func roomy(list []byte) []byte {
	room := bytes.Repeat([]byte{behind}, len(list)+8)
	copy(room, list)
	return room[:len(list)]
}

// roomySets is the same of sets.
func roomySets(list []api.Set) []api.Set {
	room := slices.Repeat([]api.Set{behind}, len(list)+8)
	copy(room, list)
	return room[:len(list)]
}

// list makes length elements, with room behind its end.
func list(length, seed int) []byte {
	from := seeded(seed)
	made := make([]byte, length)
	for i := range made {
		made[i] = from.element()
	}
	return roomy(made)
}

// filled is a matrix of such elements.
func filled(rows, cols, seed int) api.Matrix {
	return api.Matrix{Rows: rows, Cols: cols, Data: list(rows*cols, seed)}
}

// of is a matrix of so many columns by its entries.
func of(cols int, entries ...byte) api.Matrix {
	return api.Matrix{Rows: len(entries) / cols, Cols: cols, Data: roomy(entries)}
}

// slow makes a matrix by its entries, one by one.
func slow(rows, cols int, at func(i, j int) byte) api.Matrix {
	made := make([]byte, 0, rows*cols)
	for i := range rows {
		for j := range cols {
			made = append(made, at(i, j))
		}
	}
	return api.Matrix{Rows: rows, Cols: cols, Data: roomy(made)}
}

func noughts(rows, cols int) api.Matrix {
	return slow(rows, cols, func(_, _ int) byte { return 0 })
}

func identity(n int) api.Matrix {
	return slow(n, n, func(i, j int) byte { return oneIf(i == j) })
}

func oneIf(yes bool) byte {
	if yes {
		return 1
	}
	return 0
}

// entry is m's (i, j), as the document counts them.
func entry(m api.Matrix, i, j int) byte {
	return m.Data[i*m.Cols+j]
}

func row(m api.Matrix, i int) []byte {
	return m.Data[i*m.Cols : (i+1)*m.Cols]
}

func picked(m api.Matrix, rows []int) api.Matrix {
	return slow(len(rows), m.Cols, func(i, j int) byte { return entry(m, rows[i], j) })
}

func stacked(a, b api.Matrix) api.Matrix {
	return slow(a.Rows+b.Rows, a.Cols, func(i, j int) byte {
		if i < a.Rows {
			return entry(a, i, j)
		}
		return entry(b, i-a.Rows, j)
	})
}

func turned(m api.Matrix) api.Matrix {
	return slow(m.Cols, m.Rows, func(i, j int) byte { return entry(m, j, i) })
}

// slowTimes multiplies two elements as numbers of 16 bits and takes the
// remainder by 0x11d from the top down.
func slowTimes(a, b byte) byte {
	wide := 0
	for i := range 8 {
		if b>>i&1 == 1 {
			wide ^= int(a) << i
		}
	}
	for bit := 15; bit >= 8; bit-- {
		if wide>>bit&1 == 1 {
			wide ^= 0x11d << (bit - 8)
		}
	}
	return byte(wide)
}

// products keeps all products, each at [a][b]: the tests ask for many.
var products = func() (all [256][256]byte) {
	for a := range all {
		for b := range all[a] {
			all[a][b] = slowTimes(byte(a), byte(b))
		}
	}
	return all
}()

// inverses keeps those of all elements but 0.
var inverses = func() (all [256]byte) {
	for a := 1; a < 256; a++ {
		all[a] = byte(bytes.IndexByte(products[a][:], 1))
	}
	return all
}()

func slowMul(a, b api.Matrix) api.Matrix {
	return slow(a.Rows, b.Cols, func(i, j int) byte {
		var sum byte
		for k := range a.Cols {
			sum ^= products[entry(a, i, k)][entry(b, k, j)]
		}
		return sum
	})
}

// slowMake is what a generator makes of data, a byte for each block.
func slowMake(g api.Matrix, data []byte) []byte {
	return slowMul(g, api.Matrix{Rows: len(data), Cols: 1, Data: data}).Data
}

// slowRank takes one row after the other out of a list: one that is not all
// noughts clears a column of those that are left.
func slowRank(m api.Matrix) int {
	var left [][]byte
	for i := range m.Rows {
		left = append(left, bytes.Clone(row(m, i)))
	}
	rank := 0
	for len(left) > 0 {
		taken := left[len(left)-1]
		left = left[:len(left)-1]
		at := slices.IndexFunc(taken, func(element byte) bool { return element != 0 })
		if at < 0 {
			continue
		}
		rank++
		for _, other := range left {
			factor := products[inverses[taken[at]]][other[at]]
			for j := range other {
				other[j] ^= products[factor][taken[j]]
			}
		}
	}
	return rank
}

// set is the set of some numbers, each told once.
func set(numbers ...int) api.Set {
	var sum api.Set
	for _, number := range numbers {
		power := api.Set(1)
		for range number {
			power += power
		}
		sum += power
	}
	return sum
}

// numbersOf are those that a set has, rising.
func numbersOf(s api.Set) []int {
	var made []int
	for number := 0; s > 0; number++ {
		if s%2 == 1 {
			made = append(made, number)
		}
		s /= 2
	}
	return made
}

// rising are the numbers from one on to ahead of another.
func rising(from, to int) []int {
	var made []int
	for number := from; number < to; number++ {
		made = append(made, number)
	}
	return made
}

// without is a list with a number less.
func without(list []int, number int) []int {
	return slices.DeleteFunc(slices.Clone(list), func(other int) bool { return other == number })
}

// slowHangs asks of each block of a group, as the document says it, whether its
// row is a combination of the rows of the others: whether it leaves their rank
// as it is.
func slowHangs(g api.Matrix, group []int) bool {
	for _, i := range group {
		if i >= g.Rows {
			return false
		}
	}
	for _, i := range group {
		others := picked(g, without(group, i))
		if slowRank(stacked(others, picked(g, []int{i}))) != slowRank(others) {
			return false
		}
	}
	return true
}

// slowMay is whether a code may be, whose matrix is right.
func slowMay(c api.Code) bool {
	if c.G.Cols < 1 || c.G.Rows < c.G.Cols {
		return false
	}
	for _, group := range c.Groups {
		if !slowHangs(c.G, numbersOf(group)) {
			return false
		}
	}
	return true
}

// hanging are all sets of g's rows that may be groups. It is for few rows.
func hanging(g api.Matrix) []api.Set {
	var made []api.Set
	for s := range api.Set(1) << g.Rows {
		if slowHangs(g, numbersOf(s)) {
			made = append(made, s)
		}
	}
	return made
}

// code is a code by its matrix and its groups, with room behind its lists.
func code(g api.Matrix, groups ...api.Set) api.Code {
	g.Data = roomy(g.Data)
	return api.Code{G: g, Groups: roomySets(groups)}
}

// alike is whether two codes are the same.
func alike(a, b api.Code) bool {
	return a.G.Rows == b.G.Rows && a.G.Cols == b.G.Cols && bytes.Equal(a.G.Data, b.G.Data) && slices.Equal(a.Groups, b.Groups)
}

// slowReed tells of each block what a polynomial is at its number that has the
// data as its values at the numbers of the data blocks.
func slowReed(k, m int) api.Matrix {
	return slow(k+m, k, func(i, c int) byte {
		made := byte(1)
		for d := range k {
			if d != c {
				made = products[made][products[byte(i^d)][inverses[c^d]]]
			}
		}
		return made
	})
}

func slowCross(k, m int) api.Matrix {
	return slow(k+m, k, func(i, j int) byte {
		if i < k {
			return oneIf(i == j)
		}
		return inverses[i^j]
	})
}

// slowPortions is a code of portions: first tells the entries of the rows of
// the portions where these are, then those of the last rows.
func slowPortions(k, l, m int, first func(j int) byte, then func(i, j int) byte) api.Code {
	size := k / l
	made := api.Code{G: slow(k+l+m, k, func(i, j int) byte {
		switch {
		case i < k:
			return oneIf(i == j)
		case i >= k+l:
			return then(i-k-l, j)
		case j/size == i-k:
			return first(j)
		}
		return 0
	})}
	for portion := range l {
		blocks := append(rising(portion*size, (portion+1)*size), k+portion)
		made.Groups = append(made.Groups, set(blocks...))
	}
	return made
}

func slowLocal(k, l, m int) api.Code {
	return slowPortions(k, l, m, func(int) byte { return 1 }, func(i, j int) byte { return inverses[(k+i)^j] })
}

func slowPyramid(k, l, m int) api.Code {
	return slowPortions(k, l, m, func(j int) byte { return inverses[k^j] }, func(i, j int) byte { return inverses[(k+1+i)^j] })
}

func slowProduct(a, b api.Code) api.Code {
	made := api.Code{G: slow(a.G.Rows*b.G.Rows, a.G.Cols*b.G.Cols, func(i, j int) byte {
		return products[entry(a.G, i/b.G.Rows, j/b.G.Cols)][entry(b.G, i%b.G.Rows, j%b.G.Cols)]
	})}
	for _, group := range a.Groups {
		for j := range b.G.Rows {
			var blocks []int
			for _, i := range numbersOf(group) {
				blocks = append(blocks, i*b.G.Rows+j)
			}
			made.Groups = append(made.Groups, set(blocks...))
		}
	}
	for i := range a.G.Rows {
		for _, group := range b.Groups {
			var blocks []int
			for _, j := range numbersOf(group) {
				blocks = append(blocks, i*b.G.Rows+j)
			}
			made.Groups = append(made.Groups, set(blocks...))
		}
	}
	return made
}

func slowJoin(a, b api.Code) api.Code {
	made := api.Code{G: slow(a.G.Rows+b.G.Rows, a.G.Cols+b.G.Cols, func(i, j int) byte {
		switch {
		case i < a.G.Rows && j < a.G.Cols:
			return entry(a.G, i, j)
		case i >= a.G.Rows && j >= a.G.Cols:
			return entry(b.G, i-a.G.Rows, j-a.G.Cols)
		}
		return 0
	})}
	made.Groups = append(made.Groups, a.Groups...)
	for _, group := range b.Groups {
		var blocks []int
		for _, i := range numbersOf(group) {
			blocks = append(blocks, a.G.Rows+i)
		}
		made.Groups = append(made.Groups, set(blocks...))
	}
	return made
}

// wrong are matrices that are not right: by a side, by both, by Data.
func wrong() []api.Matrix {
	matrices := []api.Matrix{
		{Rows: -1, Cols: -4, Data: list(4, 1)},
		{Rows: -2, Cols: -2, Data: list(4, 1)},
		{Rows: 65, Cols: 65, Data: list(65*65, 1)},
		{Rows: 65, Cols: 65, Data: make([]byte, 65*65)},
		{Rows: 65, Cols: 64, Data: list(65*64, 1)},
		{Rows: 65, Cols: 1, Data: list(65, 1)},
		{Rows: 1, Cols: 65, Data: list(65, 1)},
		// Sides whose product comes round to 0, or to 1.
		{Rows: math.MinInt, Cols: 2},
		{Rows: 2, Cols: math.MinInt},
		{Rows: 1 << 32, Cols: 1 << 32},
		{Rows: math.MaxInt, Cols: math.MaxInt, Data: list(1, 1)},
	}
	for _, n := range []int{-1, -64, math.MinInt, 65, 4096, math.MaxInt32, math.MaxInt} {
		matrices = append(matrices, api.Matrix{Rows: n}, api.Matrix{Cols: n}, api.Matrix{Rows: n, Cols: n},
			api.Matrix{Rows: n, Cols: 1, Data: list(1, 1)}, api.Matrix{Rows: 1, Cols: n, Data: list(1, 1)})
	}
	for _, side := range []int{0, 1, 2, 3, 5, 8, 63, 64} {
		matrices = append(matrices,
			api.Matrix{Rows: side, Cols: side, Data: list(side*side+1, 1)},
			api.Matrix{Rows: side, Cols: side, Data: make([]byte, side*side+1)},
			api.Matrix{Rows: 0, Cols: side, Data: list(side+1, 1)},
			api.Matrix{Rows: side, Cols: 0, Data: list(side+1, 1)})
		if side > 0 {
			matrices = append(matrices,
				api.Matrix{Rows: side, Cols: side, Data: list(side*side-1, 1)},
				api.Matrix{Rows: side, Cols: 1})
		}
	}
	return matrices
}

// flat are matrices that are right, but no generators: without a column, or
// with fewer rows than columns.
func flat() []api.Matrix {
	matrices := []api.Matrix{{}}
	for _, n := range []int{1, 2, 3, 8, 63, 64} {
		matrices = append(matrices, noughts(n, 0), noughts(0, n))
		if n > 1 {
			matrices = append(matrices, filled(n-1, n, 1), filled(1, n, 2), noughts(n-1, n))
		}
	}
	return matrices
}

// someMatrices are generators of few rows: independent ones, such with noughts,
// with rows that stand twice, with rows that are multiples or sums of others.
func someMatrices() []api.Matrix {
	matrices := []api.Matrix{
		of(1, 0), of(1, 1), of(1, 7), of(1, 0, 0), of(1, 0, 1), of(1, 1, 0), of(1, 1, 1), of(1, 3, 7, 0), of(1, 1, 2, 3, 4, 5),
		of(2, 0, 0, 0, 0), of(2, 1, 0, 0, 1), of(2, 1, 0, 0, 1, 1, 1), of(2, 1, 0, 2, 0, 0, 1, 0, 5), of(2, 0, 0, 1, 2, 2, 4, 0, 1),
		of(2, 1, 0, 0, 1, 1, 1, 2, 2, 0, 0),
		identity(4), noughts(3, 3), stacked(identity(3), identity(3)), stacked(noughts(2, 2), identity(2)),
		stacked(identity(4), of(4, 1, 1, 0, 0, 0, 0, 1, 1)), slowReed(3, 3), slowCross(4, 2), slowCross(1, 5),
	}
	for seed := range 12 {
		from := seeded(seed)
		cols := 1 + from.below(4)
		rows := cols + from.below(4)
		rank := 1 + from.below(cols)
		matrices = append(matrices, slowMul(filled(rows, rank, seed+1), filled(rank, cols, seed+2)))
	}
	return matrices
}

// someCodes are such generators with groups of all kinds that may be: none,
// one, each that there is, some twice, in any order.
func someCodes() []api.Code {
	var made []api.Code
	for seed, g := range someMatrices() {
		from := seeded(seed)
		all := hanging(g)
		some := make([]api.Set, 1+from.below(5))
		for i := range some {
			some[i] = all[from.below(len(all))]
		}
		greatest := all[len(all)-1]
		made = append(made, code(g), code(g, greatest), code(g, some...))
		if len(all) < 10 {
			made = append(made, code(g, all...))
		}
	}
	return append(made,
		code(slowReed(2, 1)), code(slowCross(1, 2), set(0, 1, 2)),
		slowLocal(1, 1, 0), slowLocal(2, 1, 1), slowLocal(4, 2, 0), slowLocal(3, 3, 1),
		slowPyramid(1, 1, 1), slowPyramid(2, 2, 0), slowPyramid(2, 1, 1), slowPyramid(4, 2, 1))
}

// badCodes are codes that may not be, by their matrices or by their groups.
func badCodes() []api.Code {
	var made []api.Code
	for _, g := range append(wrong(), flat()...) {
		made = append(made, api.Code{G: g}, api.Code{G: g, Groups: []api.Set{0}})
	}
	return append(made,
		code(of(1, 1, 1), set(0)),
		code(of(1, 1, 1), set(1)),
		code(of(1, 1, 1), set(2)),
		code(of(1, 1, 1), set(0, 1, 2)),
		code(of(1, 1, 1), set(63)),
		code(of(1, 1, 1), set(0, 1), set(0, 1), set(0)),
		code(of(1, 1, 1), set(0), set(0, 1)),
		code(of(1, 0, 0), set(2)),
		code(of(2, 1, 0, 0, 1), set(0, 1)),
		code(identity(64), set(63)),
		code(identity(64), ^api.Set(0)),
		// With too many groups besides, or in the midst of good ones.
		code(identity(8), append(make([]api.Set, 20000), set(7))...),
		code(stacked(identity(2), of(2, 1, 1)), 0, set(0, 1, 2), set(0, 1), 0))
}
