package verdict_test

import (
	"slices"
	"testing"

	"recoup/api"
	"recoup/build"
	"recoup/matrix"
	"recoup/shape"
)

// source tells numbers by a simple rule that differs from seed to seed.
type source struct {
	state uint32
}

func seeded(seed int) *source {
	return &source{uint32(seed)*2654435761 + 12345}
}

// below is a number from 0 to ahead of n.
func (s *source) below(n int) int {
	s.state = s.state*1664525 + 1013904223
	return int(s.state>>16) % n
}

func (s *source) element() byte {
	return byte(s.below(256))
}

func (s *source) notZero() byte {
	return byte(1 + s.below(255))
}

// list is one of so many elements.
func (s *source) list(length int) []byte {
	made := make([]byte, length)
	for i := range made {
		made[i] = s.element()
	}
	return made
}

// chosen is a rising list of count numbers below n.
func (s *source) chosen(n, count int) []int {
	var made []int
	for number := range n {
		if s.below(n-number) < count-len(made) {
			made = append(made, number)
		}
	}
	return made
}

// shuffled are the numbers below n, in any order.
func (s *source) shuffled(n int) []int {
	made := rising(0, n)
	for i := n - 1; i > 0; i-- {
		k := s.below(i + 1)
		made[i], made[k] = made[k], made[i]
	}
	return made
}

// generator is one, and what it is called where a test tells of it.
type generator struct {
	name string
	g    api.Matrix
}

// must is for calls that answer no error.
func must[T any](made T, e api.Errno) T {
	if e != api.OK {
		panic(e)
	}
	return made
}

// filled is a matrix of any elements.
func filled(rows, cols, seed int) api.Matrix {
	return api.Matrix{Rows: rows, Cols: cols, Data: seeded(seed).list(rows * cols)}
}

// invertible has an inverse: it is a product of two that have one, being 0 on
// one side of where the row is the column, and not 0 there.
func invertible(n, seed int) api.Matrix {
	from := seeded(seed + 1000)
	lower := slow(n, n, func(i, j int) byte {
		if j < i {
			return from.element()
		}
		return oneIf(i == j)
	})
	upper := slow(n, n, func(i, j int) byte {
		switch {
		case j < i:
			return 0
		case j == i:
			return from.notZero()
		}
		return from.element()
	})
	return slowMul(lower, upper)
}

// mixed has the same combinations of columns, so that what is recovered stays,
// and hardly a row is one of the identity.
func mixed(g api.Matrix, seed int) api.Matrix {
	return slowMul(g, invertible(g.Cols, seed))
}

// turnedAbout has its rows in any order.
func turnedAbout(g api.Matrix, seed int) api.Matrix {
	return picked(g, seeded(seed).shuffled(g.Rows))
}

// doubled has rows that are named more than once.
func doubled(g api.Matrix, numbers ...int) api.Matrix {
	return picked(g, numbers)
}

// hanging are rows that are combinations of few ones: noughts, multiples of
// one, sums of two, any ones.
func hanging(rows, cols, rank, seed int) api.Matrix {
	from := seeded(seed)
	factors := noughts(rows, cols)
	for i := range rows {
		for range from.below(4) {
			row(factors, i)[from.below(rank)] = from.notZero()
		}
	}
	return mixed(factors, seed)
}

// builtOf are the generators that layer 5 makes, of about so many data.
func builtOf(k, m int) []generator {
	xs, ys := make([]byte, k+m), make([]byte, k)
	for i := range xs {
		xs[i] = byte(255 - i)
	}
	for i := range ys {
		ys[i] = byte(3 * i)
	}
	check := must(build.Check(must(build.Cross(m, k))))
	return []generator{
		{"Vandermonde", must(build.Vandermonde(k+m, k))},
		{"Cauchy", must(build.Cauchy(xs, ys))},
		{"Systematic", must(build.Systematic(must(build.Cauchy(xs, ys))))},
		{"Reed", must(build.Reed(k, m))},
		{"Cross", must(build.Cross(k, m))},
		{"Check, turned", must(matrix.Transpose(check))},
	}
}

// shapedSmall are the codes that layer 16 makes, with few blocks.
func shapedSmall() []generator {
	local, pyramid := must(shape.Local(4, 2, 1)), must(shape.Pyramid(4, 2, 1))
	one, three := must(shape.Local(1, 1, 0)), must(shape.Explicit(of(1, 3)))
	return []generator{
		{"reed(3, 4)", must(shape.Reed(3, 4)).G},
		{"cross(4, 3)", must(shape.Cross(4, 3)).G},
		{"local(4, 2, 0)", must(shape.Local(4, 2, 0)).G},
		{"local(4, 2, 1)", local.G},
		{"local(3, 3, 1)", must(shape.Local(3, 3, 1)).G},
		{"pyramid(4, 2, 1)", pyramid.G},
		{"pyramid(4, 1, 2)", must(shape.Pyramid(4, 1, 2)).G},
		{"product of reed(2, 1) and itself", must(shape.Product(must(shape.Reed(2, 1)), must(shape.Reed(2, 1)))).G},
		{"product of local and matrix", must(shape.Product(must(shape.Local(2, 1, 0)), must(shape.Explicit(of(1, 1, 2, 0))))).G},
		{"join of local and matrix", must(shape.Join(one, three)).G},
		{"join of reed and cross", must(shape.Join(must(shape.Reed(2, 2)), must(shape.Cross(3, 1)))).G},
		{"matrix", must(shape.Explicit(of(2, 0, 7, 0, 0, 9, 1, 9, 1))).G},
	}
}

// oddOnes have rows of noughts, rows that stand twice, too small a rank.
func oddOnes() []generator {
	reed := must(build.Reed(3, 3))
	return []generator{
		{"the example", of(2, 1, 0, 0, 1, 1, 1)},
		{"one nought", of(1, 0)},
		{"one element", of(1, 7)},
		{"one column of noughts", noughts(5, 1)},
		{"one column", of(1, 0, 5, 7, 0, 5)},
		{"noughts", noughts(4, 3)},
		{"noughts, as many rows as columns", noughts(3, 3)},
		{"the identity", identity(5)},
		{"the identity, turned", turnedAbout(identity(6), 3)},
		{"as many rows as columns", invertible(5, 1)},
		{"as many rows, a lesser rank", of(3, 1, 2, 3, 0, 1, 1, 1, 3, 2)},
		{"one row again and again", of(3, 1, 2, 3, 1, 2, 3, 1, 2, 3, 1, 2, 3)},
		{"each row twice", doubled(reed, 0, 0, 1, 1, 2, 2)},
		{"two rows three times", doubled(reed, 5, 1, 1, 5, 5, 1, 0)},
		{"multiples", of(2, 1, 2, 2, 4, 3, 6, 0, 1)},
		{"noughts on top", stacked(noughts(3, 3), reed)},
		{"noughts below", stacked(reed, noughts(3, 3))},
		{"noughts between", stacked(stacked(identity(3), noughts(1, 3)), filled(3, 3, 5))},
		{"a column of noughts", of(3, 1, 0, 0, 0, 0, 1, 1, 0, 1, 5, 0, 2)},
		{"mixed", mixed(must(build.Cross(3, 3)), 1)},
		{"local, mixed", mixed(must(shape.Local(4, 2, 1)).G, 2)},
		{"pyramid, turned about", turnedAbout(must(shape.Pyramid(4, 2, 1)).G, 4)},
	}
}

// small are generators of which all sets of rows may be gone through.
func small() []generator {
	all := slices.Concat(oddOnes(), shapedSmall(), builtOf(1, 1), builtOf(2, 3), builtOf(3, 3), builtOf(4, 1))
	for seed := range 8 {
		all = append(all,
			generator{"any elements", filled(7, 1+seed%7, seed)},
			generator{"hanging rows", hanging(8, 4, 1+seed%4, seed)})
	}
	return all
}

// great are generators with up to as many rows as may be.
func great() []generator {
	local, pyramid := must(shape.Local(48, 6, 10)), must(shape.Pyramid(40, 8, 16))
	square, tall := must(shape.Reed(5, 3)), must(shape.Cross(6, 2))
	all := slices.Concat(builtOf(8, 8), builtOf(32, 32), builtOf(20, 11), builtOf(60, 4), builtOf(1, 63))
	return append(all,
		generator{"reed(64, 0)", must(build.Reed(64, 0))},
		generator{"local(48, 6, 10)", local.G},
		generator{"pyramid(40, 8, 16)", pyramid.G},
		generator{"local(30, 30, 2)", must(shape.Local(30, 30, 2)).G},
		generator{"product", must(shape.Product(square, tall)).G},
		generator{"join", must(shape.Join(must(shape.Local(20, 4, 6)), must(shape.Pyramid(21, 3, 8)))).G},
		generator{"local, mixed and turned about", turnedAbout(mixed(local.G, 1), 2)},
		generator{"product, mixed", mixed(must(shape.Product(square, tall)).G, 3)},
		generator{"the identity", identity(64)},
		generator{"as many rows as columns", invertible(64, 1)},
		generator{"noughts", noughts(64, 64)},
		generator{"noughts below", stacked(invertible(32, 2), noughts(32, 32))},
		generator{"each row twice", stacked(invertible(32, 3), invertible(32, 3))},
		generator{"any elements", filled(64, 40, 1)},
		generator{"any elements, one column", filled(64, 1, 2)},
		generator{"hanging rows", hanging(64, 20, 20, 1)},
		generator{"hanging rows of a lesser rank", hanging(64, 20, 19, 2)})
}

// lostOf are sets that may be lost, as lists: all of a small generator; of a
// great one none, all, single ones, and of every size some.
func lostOf(g api.Matrix) [][]int {
	if g.Rows < 10 {
		return allSets(g.Rows)
	}
	from := seeded(g.Rows + g.Cols)
	made := [][]int{nil, rising(0, g.Rows), {0}, {g.Cols - 1}, {g.Rows - 1}}
	for count := 1; count <= g.Rows; count++ {
		made = append(made, from.chosen(g.Rows, count))
	}
	// Just as many left as columns, and one less.
	spare := g.Rows - g.Cols
	for range 3 {
		made = append(made, from.chosen(g.Rows, spare), from.chosen(g.Rows, min(spare+1, g.Rows)))
	}
	return append(made, rising(0, spare), rising(g.Cols, g.Rows))
}

// allSets are all lists of numbers below n, each rising.
func allSets(n int) [][]int {
	made := [][]int{nil}
	for number := range n {
		for _, lesser := range slices.Clone(made) {
			made = append(made, append(slices.Clone(lesser), number))
		}
	}
	return made
}

// everyLost does something to each generator and each set of its rows that may
// be lost.
func everyLost(do func(k generator, lost []int)) {
	for _, k := range append(small(), great()...) {
		for _, lost := range lostOf(k.g) {
			do(k, lost)
		}
	}
}

// The sets that the other tests go through are of all kinds: recovered and not,
// with as many left as columns, with fewer, with more.
func TestSetsOfAllKindsAreGoneThrough(t *testing.T) {
	type kind struct {
		spare     int
		recovered bool
	}
	found := map[kind]int{}
	everyLost(func(k generator, lost []int) {
		_, ok := slowSources(k.g, lost)
		spare := k.g.Rows - len(lost) - k.g.Cols
		found[kind{max(-1, min(1, spare)), ok}]++
	})
	for _, want := range []kind{{-1, false}, {0, false}, {0, true}, {1, false}, {1, true}} {
		if found[want] < 100 {
			t.Errorf("%+v stands for %d sets", want, found[want])
		}
	}
}
