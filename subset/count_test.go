package subset_test

import (
	"math"
	"math/big"
	"testing"

	"recoup/api"
	"recoup/subset"
)

// limit is the greatest number that Upto tells.
const limit = 4611686018427387904

// P6.2
func TestChoose(t *testing.T) {
	all := triangle()
	for n := range 65 {
		for k := range n + 1 {
			count, e := subset.Choose(n, k)
			is(t, "Choose", n, k, count, e, int(all[n][k].Int64()))
		}
	}
}

// Where all sets may be told one by one, they are.
func TestChooseCounts(t *testing.T) {
	for n := range 13 {
		for k := range n + 1 {
			count, e := subset.Choose(n, k)
			is(t, "Choose", n, k, count, e, len(slowAll(0, n, k)))
		}
	}
}

func TestChooseOfExamples(t *testing.T) {
	for _, c := range [][3]int{
		{5, 2, 10},
		{5, 6, 0},
		{5, -1, 0},
		{0, 0, 1},
		{0, 1, 0},
		{0, -1, 0},
		{64, 0, 1},
		{64, 1, 64},
		{64, 63, 64},
		{64, 64, 1},
		{64, 65, 0},
		{64, 32, 1832624140942590534},
		{64, 31, 1777090076065542336},
		{64, 33, 1777090076065542336},
	} {
		count, e := subset.Choose(c[0], c[1])
		is(t, "Choose", c[0], c[1], count, e, c[2])
	}
	count, e := subset.Choose(65, 1)
	fails(t, "Choose", 65, 1, count, e, api.ErrArg)
}

func TestChooseOfSizesThatAreNot(t *testing.T) {
	for n := range 65 {
		for _, k := range notSizes(n) {
			count, e := subset.Choose(n, k)
			is(t, "Choose", n, k, count, e, 0)
		}
	}
}

func TestChooseOfWrongBounds(t *testing.T) {
	for _, n := range notBounds() {
		for _, k := range append([]int{0, 1, 32, 64, n}, notSizes(64)...) {
			count, e := subset.Choose(n, k)
			fails(t, "Choose", n, k, count, e, api.ErrArg)
		}
	}
}

func TestUpto(t *testing.T) {
	all := triangle()
	for n := range 65 {
		total := big.NewInt(0)
		for size := range n + 4 {
			total.Add(total, slowChoose(all, n, size))
			count, e := subset.Upto(n, size)
			if total.Cmp(big.NewInt(limit)) > 0 {
				fails(t, "Upto", n, size, count, e, api.ErrLimit)
			} else {
				is(t, "Upto", n, size, count, e, int(total.Int64()))
			}
		}
	}
}

// The limit itself is told: all sets of 62, and half of those of 63. Those of
// 64 that have at most 29 numbers are the fewest above it.
func TestUptoOfTheLimit(t *testing.T) {
	for _, c := range [][2]int{{62, 62}, {62, 63}, {62, math.MaxInt}, {63, 31}} {
		count, e := subset.Upto(c[0], c[1])
		is(t, "Upto", c[0], c[1], count, e, limit)
	}
	for _, c := range [][2]int{{63, 32}, {63, 62}, {63, 63}, {63, 64}, {63, math.MaxInt}, {64, 29}, {64, 30}, {64, 31}, {64, 32}, {64, 64}, {64, 65}, {64, math.MaxInt}} {
		count, e := subset.Upto(c[0], c[1])
		fails(t, "Upto", c[0], c[1], count, e, api.ErrLimit)
	}
}

func TestUptoOfExamples(t *testing.T) {
	for _, c := range [][3]int{
		{5, 2, 16},
		{4, 9, 16},
		{4, 4, 16},
		{4, 3, 15},
		{4, 0, 1},
		{4, -1, 0},
		{0, 0, 1},
		{0, 5, 1},
		{0, -1, 0},
		{64, 0, 1},
		{64, 1, 65},
		{64, 2, 2081},
		{64, -1, 0},
		{61, 61, limit / 2},
		{62, 61, limit - 1},
	} {
		count, e := subset.Upto(c[0], c[1])
		is(t, "Upto", c[0], c[1], count, e, c[2])
	}
	count, e := subset.Upto(64, 64)
	fails(t, "Upto", 64, 64, count, e, api.ErrLimit)
}

// Below 0 there are none, above n no more than there are in all.
func TestUptoOfGreatAndNegativeSizes(t *testing.T) {
	for n := range 65 {
		for _, size := range notSizes(n) {
			count, e := subset.Upto(n, size)
			switch {
			case size < 0:
				is(t, "Upto", n, size, count, e, 0)
			case n > 62:
				fails(t, "Upto", n, size, count, e, api.ErrLimit)
			default:
				is(t, "Upto", n, size, count, e, 1<<n)
			}
		}
	}
}

// ErrArg goes ahead of ErrLimit, and of what sizes below 0 tell.
func TestUptoOfWrongBounds(t *testing.T) {
	for _, n := range notBounds() {
		for _, size := range append([]int{0, 1, 32, 64, n}, notSizes(64)...) {
			count, e := subset.Upto(n, size)
			fails(t, "Upto", n, size, count, e, api.ErrArg)
		}
	}
}
