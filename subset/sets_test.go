package subset_test

import (
	"math"
	"math/big"
	"slices"
	"testing"

	"recoup/api"
)

// What the package must tell is found out here in other ways: sets as rising
// lists, numbers of sets as sums without bounds.

// source tells numbers by a simple rule that differs from seed to seed.
type source struct {
	state uint64
}

func seeded(seed int) *source {
	return &source{uint64(seed)*0x9e3779b97f4a7c15 + 12345}
}

func (s *source) word() uint64 {
	s.state = s.state*6364136223846793005 + 1442695040888963407
	return s.state ^ s.state>>32
}

// below is a number from 0 to ahead of n.
func (s *source) below(n int) int {
	return int(s.word() >> 1 % uint64(n))
}

// chosen is a rising list of count numbers below n.
func (s *source) chosen(n, count int) []int {
	var made []int
	for number := range n {
		if s.below(n-number) < count-len(made) {
			made = append(made, number)
		}
	}
	return made
}

// setOf is the set of a list's numbers, which it has once each.
func setOf(list []int) api.Set {
	var sum api.Set
	for _, number := range list {
		power := api.Set(1)
		for range number {
			power += power
		}
		sum += power
	}
	return sum
}

// rising are the numbers from one on to ahead of another.
func rising(from, to int) []int {
	var made []int
	for number := from; number < to; number++ {
		made = append(made, number)
	}
	return made
}

// slowAll are the lists of count numbers from one on to ahead of n, in the
// order: those that have the first number, then those that have not.
func slowAll(from, n, count int) [][]int {
	switch {
	case count == 0:
		return [][]int{nil}
	case n-from < count:
		return nil
	}
	var made [][]int
	for _, behind := range slowAll(from+1, n, count-1) {
		made = append(made, append([]int{from}, behind...))
	}
	return append(made, slowAll(from+1, n, count)...)
}

// slowNext is the list that stands next behind one: the lists that share its
// numbers up to a place, and have a greater one there, stand behind it, and
// those that share most of them stand ahead of all others.
func slowNext(n int, list []int) ([]int, bool) {
	for place := len(list) - 1; place >= 0; place-- {
		next := slices.Clone(list[:place])
		next = append(next, rising(list[place]+1, list[place]+1+len(list)-place)...)
		if next[len(next)-1] < n {
			return next, true
		}
	}
	return nil, false
}

// triangle has the number of sets of n of the size k at [n][k], each the sum
// of the two above it.
func triangle() [][]*big.Int {
	var made [][]*big.Int
	for n := range 65 {
		line := make([]*big.Int, n+1)
		for k := range line {
			line[k] = big.NewInt(1)
			if 0 < k && k < n {
				line[k].Add(made[n-1][k-1], made[n-1][k])
			}
		}
		made = append(made, line)
	}
	return made
}

// slowChoose is a place of the triangle, 0 beside it.
func slowChoose(all [][]*big.Int, n, k int) *big.Int {
	if k < 0 || k > n {
		return big.NewInt(0)
	}
	return all[n][k]
}

// slowPlace is how many lists stand ahead of one, by those that stand behind
// it: such share its numbers up to a place, and have there one that is greater.
func slowPlace(all [][]*big.Int, n int, list []int) *big.Int {
	ahead := new(big.Int).Set(all[n][len(list)])
	for place, number := range list {
		ahead.Sub(ahead, slowChoose(all, n-1-number, len(list)-place))
	}
	return ahead.Sub(ahead, big.NewInt(1))
}

// bounds are n's of the tests: none, few, just as many as may be.
func bounds() []int {
	return []int{0, 1, 2, 3, 5, 8, 31, 32, 33, 62, 63, 64}
}

// notBounds are n's of which there are no sets.
func notBounds() []int {
	return []int{-1, -2, -63, -64, -65, math.MinInt, math.MinInt + 1, math.MinInt32, 65, 66, 127, 128, 129, 1 << 32, 1<<32 + 4, math.MaxInt - 1, math.MaxInt}
}

// notSizes are sizes that no set of n has.
func notSizes(n int) []int {
	return []int{-1, -2, -n - 1, -64, math.MinInt, math.MinInt + 1, n + 1, n + 2, 65 + n, 1 << 32, math.MaxInt - 1, math.MaxInt}
}

// kinds are lists of numbers below n: none, all, the first and last ones of
// each size, some between.
func kinds(n int) [][]int {
	from := seeded(n)
	var made [][]int
	for count := range n + 1 {
		made = append(made, rising(0, count), rising(n-count, n))
		for range 4 {
			made = append(made, from.chosen(n, count))
		}
	}
	return made
}

// is tells where a call did not answer this without an error.
func is[T comparable](t *testing.T, what string, n, k int, got T, e api.Errno, want T) {
	t.Helper()
	if e != api.OK || got != want {
		t.Errorf("%s(%d, %d) = %v, %v, want %v", what, n, k, got, e, want)
	}
}

// fails tells where a call did not answer this error and nothing beside it.
func fails[T comparable](t *testing.T, what string, n, k int, got T, e, want api.Errno) {
	t.Helper()
	var nothing T
	if e != want || got != nothing {
		t.Errorf("%s(%d, %d) = %v, %v, want %v", what, n, k, got, e, want)
	}
}
