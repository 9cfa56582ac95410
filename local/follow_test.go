package local_test

import (
	"bytes"
	"math"
	"slices"
	"testing"

	"recoup/api"
	"recoup/build"
	"recoup/local"
	"recoup/shape"
)

// P19.5

// Rows are independent if their rank is as great as their number.
func TestTheRowsOfLeastAreIndependent(t *testing.T) {
	everyBlock(func(k generator, b int) {
		reads, by, ok, _ := local.Least(k.g, b)
		numbers := numbersOf(reads)
		if ok && (slowRank(k.g, numbers) != len(numbers) || slices.Contains(numbers, b)) {
			t.Errorf("%s: the rows %v, told of %d", k.name, numbers, b)
		}
		for number, factor := range by {
			if slices.Contains(numbers, number) != (factor != 0) {
				t.Errorf("%s: of %v the row %d has the factor %d", k.name, numbers, number, factor)
			}
		}
	})
}

// Whatever the data are, the blocks that are read, put together, are the block.
func TestTheBlocksOfLeastPutTogether(t *testing.T) {
	everyBlock(func(k generator, b int) {
		_, by, ok, _ := local.Least(k.g, b)
		if !ok {
			return
		}
		if !bytes.Equal(putTogether(k.g, by), row(k.g, b)) {
			t.Errorf("%s: the factors %v do not come to the row %d", k.name, by, b)
		}
		data := filled(k.g.Cols, 3, b)
		blocks := slowMul(k.g, data)
		want := bytes.Clone(row(blocks, b))
		// Anything may stand in the place of the block itself.
		copy(row(blocks, b), []byte{1, 2, 3})
		if got := putTogether(blocks, by); !bytes.Equal(got, want) {
			t.Errorf("%s: the block %d, %v, is made %v", k.name, b, want, got)
		}
	})
}

// No set of fewer blocks repairs, wherever it stands in the order.
func TestNoSetOfFewerBlocksRepairs(t *testing.T) {
	for _, k := range small() {
		for b := range k.g.Rows {
			reads, _, ok, _ := local.Least(k.g, b)
			for s := range api.Set(1) << k.g.Rows {
				if ok && len(numbersOf(s)) >= len(numbersOf(reads)) {
					continue
				}
				if slowRepairs(k.g, b, numbersOf(s)) {
					t.Errorf("%s: %v repair %d, but Least tells %v, %v", k.name, numbersOf(s), b, numbersOf(reads), ok)
				}
			}
		}
	}
}

// Choices begin with what Least tells; each of them is of its size and repairs,
// and stands behind the one ahead of it.
func TestChoicesBeginWithLeast(t *testing.T) {
	everyBlock(func(k generator, b int) {
		reads, _, ok, _ := local.Least(k.g, b)
		choices, e := local.Choices(k.g, b, math.MaxInt)
		if e != api.OK {
			return
		}
		if ok != (len(choices) > 0) || ok && choices[0] != reads {
			t.Errorf("%s: the first of %d choices for %d is not %v, %v", k.name, len(choices), b, numbersOf(reads), ok)
		}
		for place, s := range choices {
			list := numbersOf(s)
			if len(list) != len(numbersOf(reads)) || !slowRepairs(k.g, b, list) {
				t.Errorf("%s: %v, told as a choice for %d", k.name, list, b)
			}
			if place > 0 && slices.Compare(numbersOf(choices[place-1]), list) >= 0 {
				t.Errorf("%s: %v are told ahead of %v", k.name, numbersOf(choices[place-1]), list)
			}
		}
	})
}

// What Group tells repairs, and has at least as many blocks as what Least does.
func TestWhatGroupTellsRepairs(t *testing.T) {
	told := 0
	for _, k := range append(shapedSmall(), shapedGreat()...) {
		for _, b := range someBlocks(k.c.G) {
			group, ok, _ := local.Group(k.c, b)
			if !ok {
				continue
			}
			if !slowRepairs(k.c.G, b, numbersOf(group)) {
				t.Errorf("%s: the group %v does not repair %d", k.name, numbersOf(group), b)
			}
			reads, _, there, e := local.Least(k.c.G, b)
			if e == api.ErrLimit {
				continue
			}
			told++
			if !there || e != api.OK || len(numbersOf(reads)) > len(numbersOf(group)) {
				t.Errorf("%s: of %d Group tells %v, Least %v, %v, %v", k.name, b, numbersOf(group), numbersOf(reads), there, e)
			}
		}
	}
	if told < 50 {
		t.Errorf("%d groups", told)
	}
}

// The groups of local codes of small portions are what Least tells: no other
// one or two blocks come to one of theirs.
func TestLeastOfLocalCodes(t *testing.T) {
	for _, sides := range [][3]int{{2, 1, 0}, {4, 2, 0}, {6, 3, 1}, {3, 3, 2}, {32, 32, 0}, {40, 20, 4}} {
		c := must(shape.Local(sides[0], sides[1], sides[2]))
		for b := range sides[0] + sides[1] {
			group, _, _ := local.Group(c, b)
			leastIs(t, "local", c.G, b, numbersOf(group))
		}
	}
}

// Any k blocks repair all others, if any k rows are independent: there is no
// choice that is not told, of any block.
func TestAnyBlocksRepairWhereAnyRowsAreIndependent(t *testing.T) {
	for _, sides := range [][2]int{{1, 1}, {1, 6}, {2, 4}, {3, 3}, {5, 4}, {9, 2}} {
		k, rows := sides[0], sides[0]+sides[1]
		for name, g := range map[string]api.Matrix{
			"reed":        must(build.Reed(k, rows-k)),
			"cross":       must(build.Cross(k, rows-k)),
			"vandermonde": mixed(must(build.Vandermonde(rows, k)), k),
		} {
			for b := range rows {
				choicesAre(t, name, g, b, math.MaxInt, anySize(rows, b, k), api.OK)
			}
			sizesAre(t, name, g, alike(rows, k), api.OK)
		}
	}
}

// With columns mixed, or with columns of noughts beside them, the same sets
// repair, by the same factors.
func TestMixedColumnsChangeNothing(t *testing.T) {
	everyBlock(func(k generator, b int) {
		reads, by, ok, e := local.Least(k.g, b)
		wide := slow(k.g.Rows, k.g.Rows, func(i, j int) byte {
			if j < k.g.Cols {
				return entry(k.g, i, j)
			}
			return 0
		})
		for _, other := range []api.Matrix{mixed(k.g, b), wide} {
			again, also, there, wrong := local.Least(other, b)
			if again != reads || !bytes.Equal(also, by) || there != ok || wrong != e {
				t.Errorf("%s: Least of %d = %v, %v, %v, with mixed columns %v, %v, %v", k.name, b, numbersOf(reads), ok, e, numbersOf(again), there, wrong)
			}
		}
	})
}
