package subset_test

import (
	"math"
	"testing"

	"recoup/api"
	"recoup/subset"
)

// greatest is the number of sets of 64 of the size 32.
const greatest = 1832624140942590534

// P6.4
func TestPlaceAndAt(t *testing.T) {
	all := triangle()
	for n := range 65 {
		for _, list := range kinds(n) {
			s, place := setOf(list), int(slowPlace(all, n, list).Int64())
			got, e := subset.Place(n, s)
			is(t, "Place", n, len(list), got, e, place)
			set, e := subset.At(n, len(list), place)
			is(t, "At", n, len(list), set, e, s)
		}
	}
}

func TestPlaceAndAtOfSmallOnes(t *testing.T) {
	for n := range 11 {
		for k := range n + 1 {
			for place, list := range slowAll(0, n, k) {
				got, e := subset.Place(n, setOf(list))
				is(t, "Place", n, k, got, e, place)
				s, e := subset.At(n, k, place)
				is(t, "At", n, k, s, e, setOf(list))
			}
		}
	}
}

// Any place: whose list has it, is found by lists alone.
func TestAtOfAnyPlace(t *testing.T) {
	all := triangle()
	from := seeded(3)
	for n := range 65 {
		for k := range n + 1 {
			place := from.below(int(all[n][k].Int64()))
			s, e := subset.At(n, k, place)
			list := subset.List(s)
			if e != api.OK || len(list) != k || s != setOf(list) || (n < 64 && s>>n != 0) {
				t.Errorf("At(%d, %d, %d) = %#x, %v, no set of that size", n, k, place, s, e)
				continue
			}
			is(t, "the place of At", n, k, int(slowPlace(all, n, list).Int64()), e, place)
		}
	}
}

func TestPlaceOfExamples(t *testing.T) {
	for _, c := range []struct {
		n     int
		s     api.Set
		place int
	}{
		{4, 6, 3},
		{4, 3, 0},
		{4, 12, 5},
		{4, 0, 0},
		{0, 0, 0},
		{64, 0, 0},
		{64, math.MaxUint64, 0},
		{64, 1, 0},
		{64, 1 << 63, 63},
		{64, 1<<63 | 1, 62},
		{64, 1<<63 | 1<<62, 2015},
		{64, 0xffffffff, 0},
		{64, 0xffffffff00000000, greatest - 1},
	} {
		place, e := subset.Place(c.n, c.s)
		is(t, "Place", c.n, subset.Count(c.s), place, e, c.place)
		s, e := subset.At(c.n, subset.Count(c.s), c.place)
		is(t, "At", c.n, c.place, s, e, c.s)
	}
}

func TestPlaceOfNoSetOfN(t *testing.T) {
	for n := range 64 {
		for number := n; number < 64; number++ {
			one := api.Set(1) << number
			for _, s := range []api.Set{one, one | 1, math.MaxUint64} {
				place, e := subset.Place(n, s)
				fails(t, "Place", n, number, place, e, api.ErrArg)
			}
		}
	}
	place, e := subset.Place(4, 16)
	fails(t, "Place", 4, 16, place, e, api.ErrArg)
}

func TestPlaceOfWrongBounds(t *testing.T) {
	for _, n := range notBounds() {
		for _, s := range []api.Set{0, 1, 9, 1 << 63, math.MaxUint64} {
			place, e := subset.Place(n, s)
			fails(t, "Place", n, 0, place, e, api.ErrArg)
		}
	}
}

// The last place is answered, the one behind it is not.
func TestAtTheEnds(t *testing.T) {
	all := triangle()
	for n := range 65 {
		for k := range n + 1 {
			count := int(all[n][k].Int64())
			s, e := subset.At(n, k, 0)
			is(t, "At the first place", n, k, s, e, setOf(rising(0, k)))
			s, e = subset.At(n, k, count-1)
			is(t, "At the last place", n, k, s, e, setOf(rising(n-k, n)))
			for _, wrong := range []int{count, count + 1, -1, -2, -count, math.MinInt, math.MinInt + 1, greatest, greatest + 1, limit, math.MaxInt - 1, math.MaxInt} {
				if wrong >= 0 && wrong < count {
					continue
				}
				s, e = subset.At(n, k, wrong)
				fails(t, "At a wrong place", n, k, s, e, api.ErrArg)
			}
		}
	}
}

func TestAtOfExamples(t *testing.T) {
	s, e := subset.At(4, 2, 3)
	is(t, "At 3", 4, 2, s, e, 6)
	s, e = subset.At(4, 2, 6)
	fails(t, "At 6", 4, 2, s, e, api.ErrArg)
	s, e = subset.At(4, 0, 0)
	is(t, "At 0", 4, 0, s, e, 0)
	s, e = subset.At(4, 0, 1)
	fails(t, "At 1", 4, 0, s, e, api.ErrArg)
	s, e = subset.At(0, 0, 0)
	is(t, "At 0", 0, 0, s, e, 0)
	s, e = subset.At(64, 64, 0)
	is(t, "At 0", 64, 64, s, e, math.MaxUint64)
}

// There is no place where there are no sets.
func TestAtOfSizesThatAreNot(t *testing.T) {
	for n := range 65 {
		for _, k := range notSizes(n) {
			for _, place := range []int{0, 1, -1, k, math.MinInt, math.MaxInt} {
				s, e := subset.At(n, k, place)
				fails(t, "At", n, k, s, e, api.ErrArg)
			}
		}
	}
}

func TestAtOfWrongBounds(t *testing.T) {
	for _, n := range notBounds() {
		for _, k := range append([]int{0, 1, 32, 64, n}, notSizes(64)...) {
			for _, place := range []int{0, 1, -1, math.MinInt, math.MaxInt} {
				s, e := subset.At(n, k, place)
				fails(t, "At", n, k, s, e, api.ErrArg)
			}
		}
	}
}
