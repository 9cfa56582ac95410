package local_test

import (
	"math"
	"slices"
	"testing"

	"recoup/api"
	"recoup/build"
	"recoup/local"
	"recoup/shape"
)

// P19.3

// choicesAre tells where Choices answers otherwise than this.
func choicesAre(t *testing.T, name string, g api.Matrix, b, most int, want []api.Set, wrong api.Errno) {
	t.Helper()
	if got, e := local.Choices(g, b, most); !slices.Equal(got, want) || e != wrong {
		t.Errorf("%s, %d x %d: Choices of %d and %d = %d sets, %v, %v, want %d sets, %v, %v", name, g.Rows, g.Cols, b, most, len(got), first(got, 5), e, len(want), first(want, 5), wrong)
	}
}

// first are the first ones of some sets, at most so many.
func first(sets []api.Set, most int) []api.Set {
	return sets[:min(most, len(sets))]
}

// someMosts go past how many there are.
func someMosts(count int) []int {
	return []int{0, 1, 2, max(0, count-1), count, count + 1, math.MaxInt32, math.MaxInt}
}

func TestChoices(t *testing.T) {
	for _, k := range small() {
		for b := range k.g.Rows {
			var want []api.Set
			if reads, ok, _ := slowLeast(k.g, b); ok {
				want = setsOf(slowChoices(k.g, b, len(reads)))
			}
			for _, most := range someMosts(len(want)) {
				choicesAre(t, k.name, k.g, b, most, first(want, most), api.OK)
			}
		}
	}
}

// Great ones, too, as long as all sets up to the size are few enough.
func TestChoicesOfGreatOnes(t *testing.T) {
	told := map[api.Errno]int{}
	for _, k := range great() {
		for _, b := range someBlocks(k.g)[:2] {
			reads, ok, e := slowLeast(k.g, b)
			var want []api.Set
			switch {
			case e == api.OK && ok && slowCount(k.g.Rows-1, len(reads)) > 16384:
				e = api.ErrLimit
			case ok:
				want = setsOf(slowChoices(k.g, b, len(reads)))
			}
			told[e]++
			choicesAre(t, k.name, k.g, b, math.MaxInt, want, e)
			choicesAre(t, k.name, k.g, b, 1, first(want, 1), e)
		}
	}
	if told[api.OK] < 10 || told[api.ErrLimit] < 10 {
		t.Errorf("nearly all alike: %v", told)
	}
}

func TestChoicesOfTheExamples(t *testing.T) {
	g := of(2, 1, 0, 0, 1, 1, 1, 2, 2, 0, 0)
	choicesAre(t, "the example", g, 0, 9, []api.Set{set(1, 2), set(1, 3)}, api.OK)
	choicesAre(t, "the example", g, 0, 1, []api.Set{set(1, 2)}, api.OK)
	choicesAre(t, "the example", g, 4, 5, []api.Set{0}, api.OK)
	choicesAre(t, "the example", g, 4, 0, nil, api.OK)
	choicesAre(t, "the example", of(1, 1, 0), 0, 9, nil, api.OK)
	choicesAre(t, "the example", of(1, 1, 0), 1, 9, []api.Set{0}, api.OK)
}

// Of the size of the least one alone: a greater set with it in it repairs as
// well, and is not told.
func TestChoicesAreOfOneSize(t *testing.T) {
	for _, rows := range []int{3, 7, 64} {
		ones := slow(rows, 1, func(_, _ int) byte { return 1 })
		for _, b := range []int{0, rows / 2, rows - 1} {
			var want []api.Set
			for _, number := range others(rows, []int{b}) {
				want = append(want, set(number))
			}
			choicesAre(t, "one column", ones, b, math.MaxInt, want, api.OK)
			choicesAre(t, "noughts", noughts(rows, 1), b, math.MaxInt, []api.Set{0}, api.OK)
		}
	}
}

// anySize are the sets of so many of the rows but b, in their order.
func anySize(rows, b, size int) []api.Set {
	return setsOf(slices.Collect(slowSets(others(rows, []int{b}), size)))
}

// Where any blocks will do, all sets of as many as there are columns are told,
// if those and the lesser ones are MaxPatterns at most. Beyond that there is an
// error, though Least tells the first of them, and however few are asked for.
func TestChoicesAtTheLimit(t *testing.T) {
	for _, c := range []struct {
		rows, size, looked int
	}{
		{15, 13, 16383}, {15, 14, 16384}, {16, 7, 16384}, {17, 6, 14893}, {19, 5, 12616},
		{26, 4, 15276}, {47, 3, 16262}, {64, 2, 2017}, {64, 1, 64},
		{17, 7, 26333}, {18, 6, 21778}, {20, 5, 16664}, {27, 4, 17902}, {48, 3, 17344}, {64, 3, 41728},
	} {
		if got := slowCount(c.rows-1, c.size); got != c.looked {
			t.Fatalf("%d sets of at most %d of %d", got, c.size, c.rows-1)
		}
		g := must(build.Vandermonde(c.rows, c.size))
		for _, b := range []int{0, c.rows / 2, c.rows - 1} {
			all := anySize(c.rows, b, c.size)
			leastIs(t, "any blocks", g, b, numbersOf(all[0]))
			for _, most := range []int{0, len(all) - b%2} {
				if c.looked <= 16384 {
					choicesAre(t, "any blocks", g, b, most, first(all, most), api.OK)
				} else {
					choicesAre(t, "any blocks", g, b, most, nil, api.ErrLimit)
				}
			}
		}
	}
}

// Where Least comes to its limit so does Choices, ahead of what most is.
func TestErrorsOfChoicesInTheirOrder(t *testing.T) {
	beyond := must(shape.Reed(20, 20)).G
	many := must(build.Vandermonde(64, 3))
	g := of(2, 1, 0, 0, 1, 1, 1, 2, 2, 0, 0)
	for _, most := range []int{-1, -2, math.MinInt32, math.MinInt} {
		choicesAre(t, "beyond the limit of Least", beyond, 7, most, nil, api.ErrLimit)
		choicesAre(t, "beyond the limit of Choices", many, 7, most, nil, api.ErrArg)
		choicesAre(t, "no set repairs", identity(64), 7, most, nil, api.ErrArg)
		choicesAre(t, "the example", g, 0, most, nil, api.ErrArg)
		choicesAre(t, "the example", g, 4, most, nil, api.ErrArg)
		choicesAre(t, "no such row", g, 5, most, nil, api.ErrArg)
		choicesAre(t, "no generator", of(2, 1, 2), 0, most, nil, api.ErrShape)
		choicesAre(t, "no generator, no such row", of(2, 1, 2), 9, most, nil, api.ErrShape)
	}
	for _, most := range []int{0, 1, math.MaxInt} {
		choicesAre(t, "beyond the limit of Least", beyond, 7, most, nil, api.ErrLimit)
		choicesAre(t, "beyond the limit of Choices", many, 7, most, nil, api.ErrLimit)
		choicesAre(t, "no set repairs", identity(64), 7, most, nil, api.OK)
	}
}

// The set of a ring is the only one of its size.
func TestChoicesOfRings(t *testing.T) {
	for seed := range 30 {
		from := seeded(seed)
		rows := 2 + from.below(11)
		list := from.chosen(rows, 1+from.below(rows))
		g := ring(rows, list, seed)
		for b := range rows {
			if at := slices.Index(list, b); at >= 0 {
				choicesAre(t, "a ring", g, b, math.MaxInt, []api.Set{set(slices.Delete(slices.Clone(list), at, at+1)...)}, api.OK)
			} else {
				choicesAre(t, "beside a ring", g, b, math.MaxInt, nil, api.OK)
			}
		}
	}
}
