package local_test

import (
	"slices"
	"testing"

	"recoup/api"
	"recoup/build"
	"recoup/local"
	"recoup/shape"
)

// P19.2

// sizesAre tells where Sizes answers otherwise than this.
func sizesAre(t *testing.T, name string, g api.Matrix, want []int, wrong api.Errno) {
	t.Helper()
	if got, e := local.Sizes(g); !slices.Equal(got, want) || e != wrong {
		t.Errorf("%s, %d x %d: Sizes = %v, %v, want %v, %v", name, g.Rows, g.Cols, got, e, want, wrong)
	}
}

func TestSizes(t *testing.T) {
	for _, k := range small() {
		var want []int
		for b := range k.g.Rows {
			reads, ok, _ := slowLeast(k.g, b)
			if !ok {
				want = append(want, -1)
			} else {
				want = append(want, len(reads))
			}
		}
		sizesAre(t, k.name, k.g, want, api.OK)
	}
}

// The words themselves: it is what Least tells of each block.
func TestSizesAreThoseOfLeast(t *testing.T) {
	// Of the great ones those whose blocks are all soon found.
	soon := slices.DeleteFunc(great(), func(k generator) bool {
		reads, _, e := slowLeast(k.g, k.g.Rows/2)
		return e != api.OK || len(reads) > 2 && k.g.Rows > 20
	})
	for _, k := range append(small(), soon...) {
		var want []int
		var wrong api.Errno
		for b := range k.g.Rows {
			reads, _, ok, e := local.Least(k.g, b)
			switch {
			case e != api.OK:
				wrong = e
			case !ok:
				want = append(want, -1)
			default:
				want = append(want, len(numbersOf(reads)))
			}
		}
		if wrong != api.OK {
			want = nil
		}
		sizesAre(t, k.name, k.g, want, wrong)
	}
}

// alike is a list of so many numbers, all the same.
func alike(length, number int) []int {
	return slices.Repeat([]int{number}, length)
}

func TestSizesAtTheEdges(t *testing.T) {
	sizesAre(t, "the example", of(2, 1, 0, 0, 1, 1, 1, 2, 2, 0, 0), []int{2, 2, 1, 1, 0}, api.OK)
	sizesAre(t, "the example", of(1, 1, 0), []int{-1, 0}, api.OK)
	sizesAre(t, "one element", of(1, 3), []int{-1}, api.OK)
	sizesAre(t, "one nought", of(1, 0), []int{0}, api.OK)
	sizesAre(t, "the identity", identity(64), alike(64, -1), api.OK)
	sizesAre(t, "noughts", noughts(64, 64), alike(64, 0), api.OK)
	sizesAre(t, "one column", slow(64, 1, func(_, _ int) byte { return 7 }), alike(64, 1), api.OK)
	sizesAre(t, "any two", must(build.Vandermonde(64, 2)), alike(64, 2), api.OK)
	sizesAre(t, "any ten", must(build.Reed(10, 4)), alike(14, 10), api.OK)
	sizesAre(t, "local", must(shape.Local(6, 2, 0)).G, alike(8, 3), api.OK)
	sizesAre(t, "product", must(shape.Product(must(shape.Reed(2, 1)), must(shape.Reed(3, 1)))).G, alike(12, 2), api.OK)
	sizesAre(t, "join", must(shape.Join(must(shape.Reed(2, 1)), must(shape.Reed(3, 0)))).G, []int{2, 2, 2, -1, -1, -1}, api.OK)
}

// As many rows as there are sets of the others to MaxPatterns, and one more.
func TestSizesAtTheLimit(t *testing.T) {
	sizesAre(t, "all others", ring(15, rising(0, 15), 1), alike(15, 14), api.OK)
	sizesAre(t, "all others", ring(16, rising(0, 16), 1), nil, api.ErrLimit)
}

// One block beyond the limit is enough, wherever it stands: its row is that of
// three others together, each of which stands twice, all of them late.
func TestSizesOfOneBlockBeyondTheLimit(t *testing.T) {
	for _, b := range []int{0, 30, 63} {
		rows := others(64, []int{b})
		g := slow(64, 60, func(i, j int) byte {
			place := slices.Index(rows, i)
			switch {
			case i == b:
				return oneIf(j >= 57)
			case place >= 60:
				return oneIf(place-3 == j)
			}
			return oneIf(place == j)
		})
		leastIsNothing(t, "three that stand twice", g, b, api.ErrLimit)
		sizesAre(t, "three that stand twice", g, nil, api.ErrLimit)
		copy(row(g, b), row(g, rows[59]))
		want := alike(64, -1)
		for _, number := range append(rows[57:], b) {
			want[number] = 1
		}
		sizesAre(t, "with its row another one", g, want, api.OK)
	}
}
