package survey_test

import (
	"fmt"
	"math"
	"testing"

	"recoup/api"
	"recoup/shape"
	"recoup/survey"
)

// P20.2: Distance.

// distanceIs tells where the distance is another than this.
func distanceIs(t *testing.T, name string, g api.Matrix, most, want int, wrong api.Errno) {
	t.Helper()
	if n, e := survey.Distance(g, most); n != want || e != wrong {
		t.Errorf("%s, %d by %d: Distance(%d) = %d, %v, want %d, %v", name, g.Rows, g.Cols, most, n, e, want, wrong)
	}
}

// distanceModelled holds the distances, up to each size and beyond all sizes,
// against the models.
func distanceModelled(t *testing.T, k code) {
	t.Helper()
	g := k.c.G
	for most := range g.Rows + 2 {
		want, e := slowDistance(g, most, k.recovers)
		distanceIs(t, k.name, g, most, want, e)
	}
	for _, most := range []int{63, 64, 65, 128, math.MaxInt32, math.MaxInt - 1, math.MaxInt} {
		want, e := slowDistance(g, most, k.recovers)
		distanceIs(t, k.name, g, most, want, e)
	}
}

func TestDistance(t *testing.T) {
	for _, k := range codes() {
		distanceModelled(t, k)
	}
}

// Of generators of all kinds, many of a rank below their columns.
func TestDistanceOfAnyGenerators(t *testing.T) {
	found := map[string]int{}
	for seed := range 1500 {
		s := seeded(seed)
		cols := 1 + s.below(4)
		rows := cols + s.below(6)
		g := slow(rows, cols, func(_, _ int) byte { return byte(s.below(1 + s.below(3))) })
		k := known(fmt.Sprint("seed ", seed), api.Code{G: g})
		distanceModelled(t, k)
		least, _ := slowDistance(g, rows, k.recovers)
		found[fmt.Sprint(least)]++
	}
	for _, least := range []string{"0", "1", "2", "3"} {
		if found[least] < 30 {
			t.Errorf("%d generators have the distance %s", found[least], least)
		}
	}
}

func TestDistanceKnown(t *testing.T) {
	example := of(2, 1, 0, 0, 1, 3, 2)
	distanceIs(t, "the example", example, 3, 2, api.OK)
	distanceIs(t, "the example", example, 2, 2, api.OK)
	distanceIs(t, "the example", example, 1, 0, api.OK)
	distanceIs(t, "the example", example, 0, 0, api.OK)
	distanceIs(t, "noughts", of(1, 0, 0), 1, 0, api.OK)
	distanceIs(t, "one row", of(1, 7), 1, 1, api.OK)
	distanceIs(t, "one row", of(1, 7), 0, 0, api.OK)
	distanceIs(t, "one column", of(1, 7, 0, 7, 9), 4, 3, api.OK)
	distanceIs(t, "one column", of(1, 7, 0, 7, 9), 2, 0, api.OK)
	distanceIs(t, "the last row alone", of(2, 1, 0, 1, 0, 0, 1), 3, 1, api.OK)
	distanceIs(t, "two times two", of(2, 1, 0, 0, 1, 1, 0, 0, 1), math.MaxInt, 2, api.OK)
	distanceIs(t, "the identity", identity(64), 2, 1, api.OK)
	distanceIs(t, "the identity", identity(64), 0, 0, api.OK)
	distanceIs(t, "local", must(shape.Local(4, 2, 0)).G, 6, 2, api.OK)
	distanceIs(t, "local", must(shape.Local(4, 2, 1)).G, 7, 3, api.OK)
	// The least of two squares' sizes is that of one times the other.
	nine := must(shape.Reed(2, 1))
	distanceIs(t, "product", must(shape.Product(nine, nine)).G, 9, 4, api.OK)
	distanceIs(t, "join", must(shape.Join(nine, must(shape.Reed(1, 4)))).G, 8, 2, api.OK)
}

// Any k of the blocks are enough: the distance is one more than the others are.
func TestDistanceWhereAnyRowsAreIndependent(t *testing.T) {
	for _, sides := range [][2]int{{1, 0}, {1, 1}, {1, 13}, {7, 7}, {13, 1}, {14, 0}, {5, 2}, {3, 6}} {
		for name, c := range map[string]api.Code{"reed": must(shape.Reed(sides[0], sides[1])), "cross": must(shape.Cross(sides[0], sides[1]))} {
			for most := range sides[0] + sides[1] + 3 {
				want := sides[1] + 1
				if most < want {
					want = 0
				}
				distanceIs(t, name, c.G, most, want, api.OK)
			}
		}
	}
}

// Of each number of rows: as many sets as MaxPatterns are gone through, one more
// is too many, however small the least set is that is not recovered.
func TestDistanceAtTheLimit(t *testing.T) {
	met := map[api.Errno]int{}
	for rows := 1; rows <= 64; rows++ {
		g := slow(rows, 1, func(i, _ int) byte { return oneIf(i == rows-1) })
		for most := range rows + 3 {
			want, e := min(most, 1), api.OK
			if tooMany(rows, most) {
				want, e = 0, api.ErrLimit
			}
			met[e]++
			distanceIs(t, "one row that counts", g, most, want, e)
			distanceIs(t, "noughts", noughts(rows, 1), most, 0, e)
			distanceIs(t, "the identity", identity(rows), most, want, e)
		}
	}
	if met[api.OK] < 100 || met[api.ErrLimit] < 100 {
		t.Errorf("%v of the limit", met)
	}
	ones := func(rows int) api.Matrix { return slow(rows, 1, func(_, _ int) byte { return 1 }) }
	distanceIs(t, "16384 sets", ones(14), 14, 14, api.OK)
	distanceIs(t, "16384 sets", ones(14), math.MaxInt, 14, api.OK)
	distanceIs(t, "16384 sets", ones(15), 7, 0, api.OK)
	distanceIs(t, "22819 sets", ones(15), 8, 0, api.ErrLimit)
	distanceIs(t, "32768 sets", ones(15), math.MaxInt, 0, api.ErrLimit)
	distanceIs(t, "16262 sets", ones(46), 3, 0, api.OK)
	distanceIs(t, "17344 sets", ones(47), 3, 0, api.ErrLimit)
	distanceIs(t, "2081 sets", ones(64), 2, 0, api.OK)
	distanceIs(t, "43745 sets", ones(64), 3, 0, api.ErrLimit)
	distanceIs(t, "2 to the power 64 sets", ones(64), 64, 0, api.ErrLimit)
	distanceIs(t, "2 to the power 64 sets", ones(64), math.MaxInt, 0, api.ErrLimit)
}

// With one more lost than are borne of a layout's blocks, just that many are its
// code's distance.
func TestDistanceIsOneMoreThanIsBorne(t *testing.T) {
	for _, k := range codes() {
		blocks := k.c.G.Rows
		for tolerate := range blocks + 1 {
			r, _ := survey.Look(alone(k, tolerate))
			want := 0
			if r.Tolerance < tolerate {
				want = r.Tolerance + 1
			}
			distanceIs(t, k.name, k.c.G, tolerate, want, api.OK)
		}
	}
}
