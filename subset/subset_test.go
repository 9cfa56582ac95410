package subset_test

import (
	"math"
	"slices"
	"testing"

	"recoup/api"
	"recoup/subset"
)

// notNumbers are those that no set has.
func notNumbers() []int {
	return []int{-1, -2, -63, -64, -65, math.MinInt, math.MinInt + 1, math.MinInt32, 64, 65, 127, 128, 255, 256, 1 << 32, 1<<32 + 3, math.MaxInt - 1, math.MaxInt}
}

// P6.1
func TestOf(t *testing.T) {
	for _, n := range bounds() {
		for _, list := range kinds(n) {
			s, e := subset.Of(list...)
			is(t, "Of", n, len(list), s, e, setOf(list))
		}
	}
}

// In whatever order the numbers are named, and however often.
func TestOfInAnyOrder(t *testing.T) {
	from := seeded(1)
	for range 200 {
		list := from.chosen(64, from.below(65))
		named := slices.Clone(list)
		for range from.below(100) {
			if len(list) > 0 {
				named = append(named, list[from.below(len(list))])
			}
		}
		for i := range named {
			k := from.below(len(named))
			named[i], named[k] = named[k], named[i]
		}
		s, e := subset.Of(named...)
		is(t, "Of, shuffled", 64, len(list), s, e, setOf(list))
	}
}

func TestOfEachNumber(t *testing.T) {
	power := api.Set(1)
	for number := range 64 {
		s, e := subset.Of(number)
		is(t, "Of one number", number, 1, s, e, power)
		s, e = subset.Of(number, number)
		is(t, "Of one number twice", number, 2, s, e, power)
		power += power
	}
}

func TestOfExamples(t *testing.T) {
	s, e := subset.Of(3, 0, 3)
	is(t, "Of 3 0 3", 0, 0, s, e, 9)
	s, e = subset.Of()
	is(t, "Of nothing", 0, 0, s, e, 0)
	s, e = subset.Of([]int{}...)
	is(t, "Of a list without elements", 0, 0, s, e, 0)
	s, e = subset.Of(0, 63)
	is(t, "Of 0 63", 0, 0, s, e, 0x8000000000000001)
	s, e = subset.Of(rising(0, 64)...)
	is(t, "Of all", 0, 0, s, e, math.MaxUint64)
	s, e = subset.Of(64)
	fails(t, "Of 64", 0, 0, s, e, api.ErrArg)
}

// Wherever the wrong one stands.
func TestOfWrongNumbers(t *testing.T) {
	for _, wrong := range notNumbers() {
		s, e := subset.Of(wrong)
		fails(t, "Of a wrong one", wrong, 0, s, e, api.ErrArg)
		for place := range 65 {
			list := slices.Insert(rising(0, 64), place, wrong)
			s, e := subset.Of(list...)
			fails(t, "Of all and a wrong one", wrong, place, s, e, api.ErrArg)
		}
	}
}

func TestListAndCount(t *testing.T) {
	for _, n := range bounds() {
		for _, list := range kinds(n) {
			s := setOf(list)
			if got := subset.List(s); !slices.Equal(got, list) {
				t.Errorf("List(%#x) = %d, want %d", s, got, list)
			}
			if got := subset.Count(s); got != len(list) {
				t.Errorf("Count(%#x) = %d, want %d", s, got, len(list))
			}
		}
	}
}

func TestListAndCountOfExamples(t *testing.T) {
	for _, c := range []struct {
		s    api.Set
		list []int
	}{
		{9, []int{0, 3}},
		{0, nil},
		{1, []int{0}},
		{1 << 63, []int{63}},
		{1<<63 | 1, []int{0, 63}},
		{math.MaxUint64, rising(0, 64)},
	} {
		if got := subset.List(c.s); !slices.Equal(got, c.list) {
			t.Errorf("List(%#x) = %d, want %d", c.s, got, c.list)
		}
		if got := subset.Count(c.s); got != len(c.list) {
			t.Errorf("Count(%#x) = %d, want %d", c.s, got, len(c.list))
		}
	}
}

func TestHas(t *testing.T) {
	for _, n := range bounds() {
		for _, list := range kinds(n) {
			s := setOf(list)
			for i := -70; i < 140; i++ {
				if got := subset.Has(s, i); got != slices.Contains(list, i) {
					t.Errorf("Has(%#x, %d) = %v", s, i, got)
				}
			}
		}
	}
}

func TestHasNoWrongNumber(t *testing.T) {
	for _, s := range []api.Set{0, 1, 9, 1 << 63, math.MaxUint64} {
		for _, wrong := range notNumbers() {
			if subset.Has(s, wrong) {
				t.Errorf("Has(%#x, %d)", s, wrong)
			}
		}
	}
}

func TestFull(t *testing.T) {
	for n := range 65 {
		s, e := subset.Full(n)
		is(t, "Full", n, 0, s, e, setOf(rising(0, n)))
	}
	s, e := subset.Full(3)
	is(t, "Full", 3, 0, s, e, 7)
	s, e = subset.Full(0)
	is(t, "Full", 0, 0, s, e, 0)
	s, e = subset.Full(64)
	is(t, "Full", 64, 0, s, e, math.MaxUint64)
}

func TestFullOfWrongBounds(t *testing.T) {
	for _, n := range notBounds() {
		s, e := subset.Full(n)
		fails(t, "Full", n, 0, s, e, api.ErrArg)
	}
}
