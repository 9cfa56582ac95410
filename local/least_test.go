package local_test

import (
	"bytes"
	"slices"
	"testing"

	"recoup/api"
	"recoup/build"
	"recoup/local"
	"recoup/shape"
)

// P19.1

// leastIs tells where Least of a block does not tell these others, and factors
// by which they come to the block. Where they are independent, as the first
// ones that repair are, there is just one such list of factors.
func leastIs(t *testing.T, name string, g api.Matrix, b int, want []int) {
	t.Helper()
	reads, by, ok, e := local.Least(g, b)
	if reads != set(want...) || !ok || e != api.OK {
		t.Errorf("%s, %d x %d: Least of %d = %v, %v, %v, want %v", name, g.Rows, g.Cols, b, numbersOf(reads), ok, e, want)
		return
	}
	if len(by) != g.Rows || !bytes.Equal(putTogether(g, by), row(g, b)) {
		t.Errorf("%s: the factors %v do not come to the block %d", name, by, b)
	}
	for number, factor := range by {
		if factor != 0 && !slices.Contains(want, number) {
			t.Errorf("%s: of the block %d the row %d has the factor %d, but %v are read", name, b, number, factor, want)
		}
	}
}

// leastIsNothing tells where Least of a block tells anything but this error.
func leastIsNothing(t *testing.T, name string, g api.Matrix, b int, want api.Errno) {
	t.Helper()
	if reads, by, ok, e := local.Least(g, b); reads != 0 || len(by) != 0 || ok || e != want {
		t.Errorf("%s, %d x %d: Least of %d = %v, %v, %v, %v, want nothing and %v", name, g.Rows, g.Cols, b, numbersOf(reads), by, ok, e, want)
	}
}

func TestLeast(t *testing.T) {
	everyBlock(func(k generator, b int) {
		if want, ok, e := slowLeast(k.g, b); ok {
			leastIs(t, k.name, k.g, b, want)
		} else {
			leastIsNothing(t, k.name, k.g, b, e)
		}
	})
}

func TestLeastOfTheExamples(t *testing.T) {
	g := of(2, 1, 0, 0, 1, 1, 1, 2, 2, 0, 0)
	for _, c := range []struct {
		name  string
		g     api.Matrix
		b     int
		reads api.Set
		by    []byte
	}{
		{"the example", g, 0, set(1, 2), []byte{0, 1, 1, 0, 0}},
		{"the example", g, 1, set(0, 2), []byte{1, 0, 1, 0, 0}},
		{"the example", g, 2, set(3), []byte{0, 0, 0, 142, 0}},
		{"the example", g, 3, set(2), []byte{0, 0, 2, 0, 0}},
		{"the example", g, 4, 0, []byte{0, 0, 0, 0, 0}},
		{"one nought", of(1, 0), 0, 0, []byte{0}},
		{"a nought behind an element", of(1, 9, 0), 1, 0, []byte{0, 0}},
		{"a nought, though others come to it", of(1, 0, 5, 5), 0, 0, []byte{0, 0, 0}},
		{"one column", of(1, 0, 4, 2, 1), 3, set(1), []byte{0, 71, 0, 0}},
		{"rows that stand twice", of(2, 0, 1, 1, 0, 0, 1), 2, set(0), []byte{1, 0, 0}},
		{"local(4, 2, 0)", must(shape.Local(4, 2, 0)).G, 0, set(1, 4), []byte{0, 1, 0, 0, 1, 0}},
		{"local(4, 2, 0)", must(shape.Local(4, 2, 0)).G, 5, set(2, 3), []byte{0, 0, 1, 1, 0, 0}},
		{"reed(2, 1)", must(build.Reed(2, 1)), 2, set(0, 1), []byte{3, 2, 0}},
	} {
		reads, by, ok, e := local.Least(c.g, c.b)
		if reads != c.reads || !bytes.Equal(by, c.by) || !ok || e != api.OK {
			t.Errorf("%s: Least of %d = %v, %v, %v, %v", c.name, c.b, numbersOf(reads), by, ok, e)
		}
	}
	leastIsNothing(t, "the example", of(1, 1, 0), 0, api.OK)
	leastIsNothing(t, "the example", g, 5, api.ErrArg)
	leastIsNothing(t, "the example", of(2, 1, 2), 0, api.ErrShape)
}

// Of a ring's rows each is repaired by the others of it alone, whatever its
// size and wherever it lies.
func TestLeastOfRings(t *testing.T) {
	for seed := range 60 {
		from := seeded(seed)
		rows := []int{2, 3, 5, 9, 14, 15}[seed%6]
		list := from.chosen(rows, 1+from.below(rows))
		g := ring(rows, list, seed)
		for b := range rows {
			if at := slices.Index(list, b); at >= 0 {
				leastIs(t, "a ring", g, b, slices.Delete(slices.Clone(list), at, at+1))
			} else {
				leastIsNothing(t, "beside a ring", g, b, api.OK)
			}
		}
	}
}

// Of these codes the first blocks will do, as many as there are data, if the
// search comes to them.
func TestLeastOfCodesOfWhichAnyBlocksWillDo(t *testing.T) {
	for _, sides := range [][2]int{{1, 1}, {1, 5}, {3, 2}, {6, 6}, {10, 4}, {14, 1}, {3, 61}, {2, 62}, {1, 63}} {
		k, m := sides[0], sides[1]
		for name, g := range map[string]api.Matrix{
			"reed":        must(build.Reed(k, m)),
			"cross":       must(build.Cross(k, m)),
			"vandermonde": must(build.Vandermonde(k+m, k)),
		} {
			for _, b := range []int{0, k - 1, k, k + m - 1} {
				leastIs(t, name, g, b, others(k+m, []int{b})[:k])
			}
		}
	}
}

// A nought is repaired by nothing, a row that stands twice by the first of its
// likes, though the number of b's own is less.
func TestLeastOfOneAndOfNone(t *testing.T) {
	for _, rows := range []int{2, 3, 33, 63, 64} {
		for _, b := range []int{0, 1, rows / 2, rows - 1} {
			g := filled(rows, 1, rows+b)
			for i := range g.Data {
				g.Data[i] |= 1
			}
			first := others(rows, []int{b})[0]
			leastIs(t, "one column", g, b, []int{first})
			g.Data[b] = 0
			leastIs(t, "a nought", g, b, nil)
			g.Data[b], g.Data[first] = 1, 0
			if rows > 2 {
				leastIs(t, "one column, a nought ahead", g, b, []int{others(rows, []int{b, first})[0]})
			} else {
				leastIsNothing(t, "a nought beside it", g, b, api.OK)
			}
		}
	}
}

// lastLooked is the last set that the search looks at, and the first one that
// it does not: of so many rows, more than 15.
func lastLooked(rows, b int) (last, beyond []int) {
	looked := 0
	for list := range slowSearch(rows, b) {
		if looked++; looked > api.MaxPatterns {
			return last, list
		}
		last = list
	}
	panic("too few sets")
}

// The limit: the search looks at MaxPatterns sets and at no more. In a ring
// there is just one set, of its size and of lesser ones, that repairs.
func TestLeastAtTheLimit(t *testing.T) {
	for _, rows := range []int{16, 17, 18, 20, 25, 33, 47, 63, 64} {
		for _, b := range []int{0, 1, rows / 2, rows - 1} {
			last, beyond := lastLooked(rows, b)
			leastIs(t, "the last set of the search", ring(rows, slices.Sorted(slices.Values(append(last, b))), b), b, last)
			leastIsNothing(t, "the set behind it", ring(rows, slices.Sorted(slices.Values(append(beyond, b))), b), b, api.ErrLimit)
		}
	}
}

// Of 15 rows the sets of the others are just MaxPatterns; of 16, twice as many.
func TestLeastOfAllOthers(t *testing.T) {
	for _, rows := range []int{13, 14, 15, 16, 17, 40, 64} {
		g := ring(rows, rising(0, rows), rows)
		for _, b := range []int{0, rows / 2, rows - 1} {
			if rows <= 15 {
				leastIs(t, "all others", g, b, others(rows, []int{b}))
			} else {
				leastIsNothing(t, "all others", g, b, api.ErrLimit)
			}
		}
	}
}

// What no set repairs is no error, though the search would come to its limit.
func TestLeastOfWhatNoSetRepairs(t *testing.T) {
	for _, rows := range []int{1, 2, 15, 16, 17, 63, 64} {
		for _, b := range []int{0, rows / 2, rows - 1} {
			leastIsNothing(t, "the identity", identity(rows), b, api.OK)
			leastIsNothing(t, "as many rows as columns", invertible(rows, b), b, api.OK)
			// The others are noughts, or all alike.
			leastIsNothing(t, "one alone", slow(rows, 1, func(i, _ int) byte { return oneIf(i == b) }), b, api.OK)
			if rows > 1 {
				leastIsNothing(t, "one among others", slow(rows, 2, func(i, j int) byte { return oneIf((i == b) == (j == 1)) }), b, api.OK)
			}
		}
	}
	join := must(shape.Join(must(shape.Reed(20, 20)), must(shape.Reed(1, 0)))).G
	leastIsNothing(t, "beside a code with many blocks", join, 40, api.OK)
	leastIsNothing(t, "with many blocks", join, 39, api.ErrLimit)
}
