package local_test

import (
	"slices"
	"testing"

	"recoup/api"
	"recoup/build"
	"recoup/matrix"
	"recoup/shape"
)

// source tells numbers by a simple rule that differs from seed to seed.
type source struct {
	state uint32
}

func seeded(seed int) *source {
	return &source{uint32(seed)*2654435761 + 12345}
}

// below is a number from 0 to ahead of n.
func (s *source) below(n int) int {
	s.state = s.state*1664525 + 1013904223
	return int(s.state>>16) % n
}

func (s *source) element() byte {
	return byte(s.below(256))
}

func (s *source) notZero() byte {
	return byte(1 + s.below(255))
}

// list is one of so many elements.
func (s *source) list(length int) []byte {
	made := make([]byte, length)
	for i := range made {
		made[i] = s.element()
	}
	return made
}

// chosen is a rising list of count numbers below n.
func (s *source) chosen(n, count int) []int {
	var made []int
	for number := range n {
		if s.below(n-number) < count-len(made) {
			made = append(made, number)
		}
	}
	return made
}

// shuffled are the numbers below n, in any order.
func (s *source) shuffled(n int) []int {
	made := rising(0, n)
	for i := n - 1; i > 0; i-- {
		k := s.below(i + 1)
		made[i], made[k] = made[k], made[i]
	}
	return made
}

// generator is one, and what it is called where a test tells of it.
type generator struct {
	name string
	g    api.Matrix
}

// must is for calls that answer no error.
func must[T any](made T, e api.Errno) T {
	if e != api.OK {
		panic(e)
	}
	return made
}

// filled is a matrix of any elements.
func filled(rows, cols, seed int) api.Matrix {
	return api.Matrix{Rows: rows, Cols: cols, Data: seeded(seed).list(rows * cols)}
}

// invertible has an inverse: it is a product of two that have one, being 0 on
// one side of where the row is the column, and not 0 there.
func invertible(n, seed int) api.Matrix {
	from := seeded(seed + 1000)
	lower := slow(n, n, func(i, j int) byte {
		if j < i {
			return from.element()
		}
		return oneIf(i == j)
	})
	upper := slow(n, n, func(i, j int) byte {
		switch {
		case j < i:
			return 0
		case j == i:
			return from.notZero()
		}
		return from.element()
	})
	return slowMul(lower, upper)
}

// mixed has the same combinations of columns, so that the same sets repair, and
// hardly a row is one of the identity.
func mixed(g api.Matrix, seed int) api.Matrix {
	return slowMul(g, invertible(g.Cols, seed))
}

// turnedAbout has its rows in any order.
func turnedAbout(g api.Matrix, seed int) api.Matrix {
	return picked(g, seeded(seed).shuffled(g.Rows))
}

// hanging are rows that are combinations of few ones: noughts, multiples of
// one, sums of two or three.
func hanging(rows, cols, rank, seed int) api.Matrix {
	from := seeded(seed)
	factors := noughts(rows, cols)
	for i := range rows {
		for range from.below(4) {
			row(factors, i)[from.below(rank)] = from.notZero()
		}
	}
	return mixed(factors, seed)
}

// ring has so many rows, all independent but those of a list, which come to
// noughts together and not without any one of them: so each of these is
// repaired by the others of the list, of the least sets by no other one, and
// the rows beside the list by none.
func ring(rows int, list []int, seed int) api.Matrix {
	from := seeded(seed)
	last := list[from.below(len(list))]
	free := others(rows, []int{last})
	made := slow(rows, rows-1, func(i, j int) byte {
		if i == last && slices.Contains(list, free[j]) {
			return from.notZero()
		}
		return oneIf(free[j] == i)
	})
	return mixed(made, seed)
}

// builtOf are the generators that layer 5 makes, of about so many data.
func builtOf(k, m int) []generator {
	xs, ys := make([]byte, k+m), make([]byte, k)
	for i := range xs {
		xs[i] = byte(255 - i)
	}
	for i := range ys {
		ys[i] = byte(3 * i)
	}
	check := must(build.Check(must(build.Cross(m, k))))
	return []generator{
		{"Vandermonde", must(build.Vandermonde(k+m, k))},
		{"Cauchy", must(build.Cauchy(xs, ys))},
		{"Systematic", must(build.Systematic(must(build.Cauchy(xs, ys))))},
		{"Reed", must(build.Reed(k, m))},
		{"Cross", must(build.Cross(k, m))},
		{"Check, turned", must(matrix.Transpose(check))},
	}
}

// code is one, and what it is called where a test tells of it.
type code struct {
	name string
	c    api.Code
}

// shapedSmall are the codes that layer 16 makes, with few blocks.
func shapedSmall() []code {
	local, pyramid := must(shape.Local(4, 2, 1)), must(shape.Pyramid(4, 2, 1))
	one, three := must(shape.Local(1, 1, 0)), must(shape.Explicit(of(1, 3)))
	pair := must(shape.Local(2, 1, 0))
	return []code{
		{"reed(3, 4)", must(shape.Reed(3, 4))},
		{"cross(4, 3)", must(shape.Cross(4, 3))},
		{"local(2, 1, 0)", pair},
		{"local(4, 2, 0)", must(shape.Local(4, 2, 0))},
		{"local(4, 2, 1)", local},
		{"local(3, 3, 1)", must(shape.Local(3, 3, 1))},
		{"local(6, 3, 0)", must(shape.Local(6, 3, 0))},
		{"pyramid(4, 2, 1)", pyramid},
		{"pyramid(4, 1, 2)", must(shape.Pyramid(4, 1, 2))},
		{"product of reed(2, 1) and itself", must(shape.Product(must(shape.Reed(2, 1)), must(shape.Reed(2, 1))))},
		{"product of local(2, 1, 0) and itself", must(shape.Product(pair, pair))},
		{"product of local and matrix", must(shape.Product(pair, must(shape.Explicit(of(1, 1, 2, 0)))))},
		{"join of local and matrix", must(shape.Join(one, three))},
		{"join of matrix and local", must(shape.Join(three, pair))},
		{"join of reed and cross", must(shape.Join(must(shape.Reed(2, 2)), must(shape.Cross(3, 1))))},
		{"matrix", must(shape.Explicit(of(2, 0, 7, 0, 0, 9, 1, 9, 1)))},
	}
}

// oddOnes have rows of noughts, rows that stand twice, too small a rank.
func oddOnes() []generator {
	reed := must(build.Reed(3, 3))
	return []generator{
		{"the example", of(2, 1, 0, 0, 1, 1, 1, 2, 2, 0, 0)},
		{"one nought", of(1, 0)},
		{"one element", of(1, 7)},
		{"an element and a nought", of(1, 1, 0)},
		{"one column of noughts", noughts(5, 1)},
		{"one column", of(1, 0, 5, 7, 0, 5)},
		{"noughts", noughts(4, 3)},
		{"noughts, as many rows as columns", noughts(3, 3)},
		{"the identity", identity(5)},
		{"the identity, turned", turnedAbout(identity(6), 3)},
		{"as many rows as columns", invertible(5, 1)},
		{"as many rows, a lesser rank", of(3, 1, 2, 3, 0, 1, 1, 1, 3, 2)},
		{"one row again and again", of(3, 1, 2, 3, 1, 2, 3, 1, 2, 3, 1, 2, 3)},
		{"each row twice", picked(reed, []int{0, 0, 1, 1, 2, 2})},
		{"two rows three times", picked(reed, []int{5, 1, 1, 5, 5, 1, 0})},
		{"multiples", of(2, 1, 2, 2, 4, 3, 6, 0, 1)},
		{"noughts on top", stacked(noughts(3, 3), reed)},
		{"noughts below", stacked(reed, noughts(3, 3))},
		{"noughts between", stacked(stacked(identity(3), noughts(1, 3)), filled(3, 3, 5))},
		{"a column of noughts", of(3, 1, 0, 0, 0, 0, 1, 1, 0, 1, 5, 0, 2)},
		{"mixed", mixed(must(build.Cross(3, 3)), 1)},
		{"local, mixed", mixed(must(shape.Local(4, 2, 1)).G, 2)},
		{"pyramid, turned about", turnedAbout(must(shape.Pyramid(4, 2, 1)).G, 4)},
	}
}

// small are generators of which all sets of rows may be gone through.
func small() []generator {
	all := slices.Concat(oddOnes(), builtOf(1, 1), builtOf(2, 3), builtOf(3, 3), builtOf(4, 1))
	for _, k := range shapedSmall() {
		all = append(all, generator{k.name, k.c.G})
	}
	for seed := range 12 {
		all = append(all,
			generator{"any elements", filled(7, 1+seed%7, seed)},
			generator{"hanging rows", hanging(8, 4, 1+seed%4, seed)},
			generator{"more hanging rows", hanging(10, 7, 4+seed%4, seed)},
			generator{"a ring", ring(8, seeded(seed).chosen(8, 1+seed%8), seed)})
	}
	return all
}

// great are generators with up to as many rows as may be.
func great() []generator {
	square, tall := must(shape.Reed(5, 3)), must(shape.Cross(6, 2))
	local := must(shape.Local(48, 6, 10))
	return []generator{
		{"Vandermonde(64, 2)", must(build.Vandermonde(64, 2))},
		{"Cross(3, 61)", must(build.Cross(3, 61))},
		{"Reed(1, 63)", must(build.Reed(1, 63))},
		{"Reed(8, 4)", must(build.Reed(8, 4))},
		{"Cross(12, 2)", must(build.Cross(12, 2))},
		{"Cross(32, 32)", must(build.Cross(32, 32))},
		{"Reed(64, 0)", must(build.Reed(64, 0))},
		{"local(48, 6, 10)", local.G},
		{"local(32, 16, 10)", must(shape.Local(32, 16, 10)).G},
		{"pyramid(30, 10, 5)", must(shape.Pyramid(30, 10, 5)).G},
		{"product", must(shape.Product(square, tall)).G},
		{"join", must(shape.Join(must(shape.Local(8, 4, 2)), must(shape.Pyramid(21, 21, 8)))).G},
		{"local, mixed and turned about", turnedAbout(mixed(must(shape.Local(32, 16, 10)).G, 1), 2)},
		{"the identity", identity(64)},
		{"as many rows as columns", invertible(64, 1)},
		{"noughts", noughts(64, 64)},
		{"noughts below", stacked(invertible(32, 2), noughts(32, 32))},
		{"each row twice", stacked(invertible(32, 3), invertible(32, 3))},
		{"any elements, one column", filled(64, 1, 2)},
		{"any elements, many columns", filled(64, 40, 1)},
		{"hanging rows", hanging(64, 20, 20, 1)},
		{"few hanging rows", hanging(40, 36, 36, 5)},
		{"a ring", ring(64, []int{1, 4, 40, 63}, 6)},
	}
}

// someBlocks are a few of so many rows: all, if they are few.
func someBlocks(g api.Matrix) []int {
	if g.Rows <= 10 {
		return rising(0, g.Rows)
	}
	made := []int{0, 1, g.Cols - 1, g.Cols / 2, g.Rows / 2, g.Rows - 1}
	slices.Sort(made)
	return slices.Compact(made)
}

// everyBlock does something to each generator and to each of its blocks, of
// great ones to some.
func everyBlock(do func(k generator, b int)) {
	for _, k := range append(small(), great()...) {
		for _, b := range someBlocks(k.g) {
			do(k, b)
		}
	}
}

// The blocks that the other tests go through are of all kinds: repaired by sets
// of all sizes, by none, and by sets that the search does not come to.
func TestBlocksOfAllKindsAreGoneThrough(t *testing.T) {
	found := map[int]int{}
	everyBlock(func(k generator, b int) {
		reads, ok, e := slowLeast(k.g, b)
		switch {
		case e != api.OK:
			found[-2]++
		case !ok:
			found[-1]++
		default:
			found[len(reads)]++
		}
	})
	for kind := -2; kind < 6; kind++ {
		if found[kind] < 8 {
			t.Errorf("%d stands for %d blocks", kind, found[kind])
		}
	}
}

// A ring is what it is said to be.
func TestRings(t *testing.T) {
	for seed := range 40 {
		from := seeded(seed)
		rows := 1 + from.below(10)
		list := from.chosen(rows, 1+from.below(rows))
		if rows == 1 {
			continue
		}
		g := ring(rows, list, seed)
		if slowRank(g, rising(0, rows)) != rows-1 || slowRank(g, list) != len(list)-1 {
			t.Errorf("%d: the ranks of a ring of %v", seed, list)
		}
		for _, b := range list {
			if slowRank(g, others(rows, []int{b})) != rows-1 {
				t.Errorf("%d: the ring of %v does not need %d", seed, list, b)
			}
		}
	}
}
