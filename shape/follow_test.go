package shape_test

import (
	"bytes"
	"fmt"
	"testing"

	"recoup/api"
	"recoup/shape"
)

// P16.7

// must is for calls that answer no error.
func must(t *testing.T) func(c api.Code, e api.Errno) api.Code {
	return func(c api.Code, e api.Errno) api.Code {
		t.Helper()
		if e != api.OK {
			t.Fatal(e)
		}
		return c
	}
}

// answered are codes of each make.
func answered(t *testing.T) []api.Code {
	t.Helper()
	ok := must(t)
	var made []api.Code
	for k := 1; k <= 5; k++ {
		for m := range 4 {
			made = append(made, ok(shape.Reed(k, m)), ok(shape.Cross(k, m)))
			for l := 1; l <= k; l++ {
				if k%l == 0 {
					made = append(made, ok(shape.Local(k, l, m)), ok(shape.Pyramid(k, l, m)))
				}
			}
		}
	}
	for _, g := range someMatrices() {
		made = append(made, ok(shape.Explicit(g)))
	}
	return append(made, someCodes()...)
}

func TestWhatIsAnsweredMayBe(t *testing.T) {
	all := answered(t)
	from := seeded(1)
	for range 400 {
		a, b := all[from.below(len(all))], all[from.below(len(all))]
		for _, call := range bothLaid() {
			if c, e := call.call(a, b); e == api.OK {
				all = append(all, c)
			}
		}
	}
	for _, c := range all {
		if !shape.May(c) {
			t.Errorf("May(%v) = false", c)
		}
		if c.G.Rows <= 24 && !slowMay(c) {
			t.Errorf("%v may not be", c)
		}
	}
	everyPortions(func(k, l, m int) {
		ok := must(t)
		may(t, ok(shape.Local(k, l, m)), true)
		may(t, ok(shape.Pyramid(k, l, m)), true)
	})
}

func TestGroupsOfALocalCodeComeToNought(t *testing.T) {
	everyPortions(func(k, l, m int) {
		c := must(t)(shape.Local(k, l, m))
		blocks := slowMake(c.G, list(k, k+l+m))
		for _, group := range c.Groups {
			var sum byte
			for _, i := range numbersOf(group) {
				sum ^= blocks[i]
			}
			if sum != 0 || group == 0 {
				t.Errorf("Local(%d, %d, %d): the blocks of %#x come to %d", k, l, m, group, sum)
			}
		}
		if len(c.Groups) != l {
			t.Errorf("Local(%d, %d, %d) has %d groups", k, l, m, len(c.Groups))
		}
	})
}

// The blocks of a product, laid in rows, are what both make of the data, laid
// in rows.
func TestBlocksOfAProduct(t *testing.T) {
	ok := must(t)
	all := answered(t)
	for seed := range 600 {
		from := seeded(seed)
		a, b := all[from.below(len(all))], all[from.below(len(all))]
		if a.G.Rows*b.G.Rows > 64 {
			continue
		}
		c := ok(shape.Product(a, b))
		data := filled(a.G.Cols, b.G.Cols, seed)
		blocks := slowMake(c.G, data.Data)
		// b makes the blocks of each row of data, and a those of each column of them.
		rows := api.Matrix{Rows: a.G.Cols, Cols: b.G.Rows}
		for i := range data.Rows {
			rows.Data = append(rows.Data, slowMake(b.G, row(data, i))...)
		}
		if want := slowMul(a.G, rows).Data; !bytes.Equal(blocks, want) {
			t.Errorf("the blocks of a product are %d, want %d", blocks, want)
		}
		square := api.Matrix{Rows: a.G.Rows, Cols: b.G.Rows, Data: blocks}
		if !allMade(a.G, turned(square)) {
			t.Errorf("a column of the product of seed %d is none that the first makes", seed)
		}
		if !allMade(b.G, square) {
			t.Errorf("a row of the product of seed %d is none that the second makes", seed)
		}
	}
}

// allMade asks whether each row of lists is one that g makes: a combination of
// its columns.
func allMade(g api.Matrix, lists api.Matrix) bool {
	return slowRank(stacked(turned(g), lists)) == slowRank(g)
}

// The first blocks of a join hang on the first data alone, and the others on
// the other data.
func TestBlocksOfAJoin(t *testing.T) {
	ok := must(t)
	all := answered(t)
	for seed := range 600 {
		from := seeded(seed)
		a, b := all[from.below(len(all))], all[from.below(len(all))]
		c := ok(shape.Join(a, b))
		first, other := list(a.G.Cols, seed), list(b.G.Cols, seed+1)
		blocks := slowMake(c.G, append(bytes.Clone(first), other...))
		if !bytes.Equal(blocks[:a.G.Rows], slowMake(a.G, first)) || !bytes.Equal(blocks[a.G.Rows:], slowMake(b.G, other)) {
			t.Errorf("the blocks of the join of seed %d are not those of both", seed)
		}
		changed := slowMake(c.G, append(bytes.Clone(first), list(b.G.Cols, seed+2)...))
		if !bytes.Equal(changed[:a.G.Rows], blocks[:a.G.Rows]) {
			t.Errorf("the first blocks of the join of seed %d hang on other data", seed)
		}
	}
}

// borne asks whether the other rows have the rank of the columns.
func borne(g api.Matrix, lost api.Set) bool {
	return slowRank(picked(g, numbersOf(set(rising(0, g.Rows)...)&^lost))) == g.Cols
}

// oneOfEach goes through all sets that have one number of each group.
func oneOfEach(groups []api.Set, so api.Set, do func(lost api.Set)) {
	if len(groups) == 0 {
		do(so)
		return
	}
	for _, i := range numbersOf(groups[0]) {
		oneOfEach(groups[1:], so|set(i), do)
	}
}

func TestLostBlocksOfSmallCodes(t *testing.T) {
	for name, c := range portioned() {
		everyPortions(func(k, l, m int) {
			if k+l+m > 12 {
				return
			}
			made := must(t)(c.call(k, l, m))
			what := fmt.Sprintf("%s(%d, %d, %d)", name, k, l, m)
			for lost := range api.Set(1) << (k + l + m) {
				if len(numbersOf(lost)) == m && !borne(made.G, lost) {
					t.Errorf("%s does not bear %#x", what, lost)
				}
			}
			count := 0
			oneOfEach(made.Groups, 0, func(lost api.Set) {
				count++
				if !borne(made.G, lost) {
					t.Errorf("%s does not bear %#x, one of each group", what, lost)
				}
			})
			if count == 0 {
				t.Errorf("%s has a group without blocks", what)
			}
		})
	}
}

func TestLostBlocksOfGreatCodes(t *testing.T) {
	for name, c := range portioned() {
		for _, n := range [][3]int{{60, 2, 2}, {32, 32, 0}, {30, 15, 19}, {20, 4, 40}, {1, 1, 62}, {62, 1, 1}, {48, 8, 8}, {31, 31, 2}, {40, 10, 4}} {
			k, l, m := n[0], n[1], n[2]
			made := must(t)(c.call(k, l, m))
			for seed := range 40 {
				from := seeded(seed)
				lost := api.Set(0)
				for len(numbersOf(lost)) < m {
					lost |= set(from.below(k + l + m))
				}
				if !borne(made.G, lost) {
					t.Errorf("%s(%d, %d, %d) does not bear %#x", name, k, l, m, lost)
				}
				lost = 0
				for _, group := range made.Groups {
					blocks := numbersOf(group)
					lost |= set(blocks[from.below(len(blocks))])
				}
				if !borne(made.G, lost) {
					t.Errorf("%s(%d, %d, %d) does not bear %#x, one of each group", name, k, l, m, lost)
				}
			}
		}
	}
}

// A pyramid's blocks of portions are one block of a greater code, cut up.
func TestPortionsOfAPyramidPutTogether(t *testing.T) {
	ok := must(t)
	everyPortions(func(k, l, m int) {
		whole, cut := ok(shape.Cross(k, m+1)), ok(shape.Pyramid(k, l, m))
		sum := make([]byte, k)
		for portion := range l {
			for j, element := range row(cut.G, k+portion) {
				sum[j] ^= element
			}
		}
		if !bytes.Equal(sum, row(whole.G, k)) {
			t.Errorf("Pyramid(%d, %d, %d): the portions' rows come to %d", k, l, m, sum)
		}
	})
}
