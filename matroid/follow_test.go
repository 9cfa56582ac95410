package matroid_test

import (
	"testing"

	"recoup/api"
	"recoup/matroid"
	"recoup/subset"
)

// must is for calls over a matrix and a set that answer no error.
func must[T any](t *testing.T) func(got T, e api.Errno) T {
	return func(got T, e api.Errno) T {
		t.Helper()
		if e != api.OK {
			t.Fatal(e)
		}
		return got
	}
}

// P7.4
func TestRankGrowsByOneAtMost(t *testing.T) {
	rank := must[int](t)
	for _, k := range append(small(), great()...) {
		for _, s := range k.sets() {
			set := setOf(s...)
			before := rank(matroid.Rank(k.g, set))
			if before > len(s) {
				t.Errorf("%s: the rank of %d is %d", k.name, s, before)
			}
			for _, i := range k.some(rising(0, k.g.Rows)) {
				if grown := rank(matroid.Rank(k.g, set|1<<i)) - before; grown < 0 || grown > 1 {
					t.Errorf("%s: the rank of %d grows by %d with %d", k.name, s, grown, i)
				}
			}
		}
	}
}

// pairs are two sets each: any two of a small matrix with few rows, some of
// the others.
func (k known) pairs() [][2]api.Set {
	sets := k.sets()
	from := seeded(k.g.Rows)
	var made [][2]api.Set
	for i, one := range sets {
		for other := range i {
			if k.g.Rows < 6 || from.below(len(sets)) < 6 {
				made = append(made, [2]api.Set{setOf(one...), setOf(sets[other]...)})
			}
		}
	}
	return made
}

func TestRanksOfUnionAndOfWhatBothHave(t *testing.T) {
	rank := must[int](t)
	for _, k := range append(small(), great()...) {
		for _, pair := range k.pairs() {
			one, other := pair[0], pair[1]
			together := rank(matroid.Rank(k.g, one|other)) + rank(matroid.Rank(k.g, one&other))
			if alone := rank(matroid.Rank(k.g, one)) + rank(matroid.Rank(k.g, other)); together > alone {
				t.Errorf("%s: of %#x and %#x the ranks are %d together, %d alone", k.name, one, other, together, alone)
			}
		}
	}
}

func TestSpanHasTheRankOfItsSet(t *testing.T) {
	rank, set := must[int](t), must[api.Set](t)
	for _, k := range append(small(), great()...) {
		for _, s := range k.sets() {
			span := set(matroid.Span(k.g, setOf(s...)))
			if span&setOf(s...) != setOf(s...) {
				t.Errorf("%s: the span of %d, %#x, has it not", k.name, s, span)
			}
			if one, other := rank(matroid.Rank(k.g, span)), rank(matroid.Rank(k.g, setOf(s...))); one != other {
				t.Errorf("%s: %d has the rank %d, its span %d", k.name, s, other, one)
			}
			if again := set(matroid.Span(k.g, span)); again != span {
				t.Errorf("%s: the span of %d is %#x, and of that %#x", k.name, s, span, again)
			}
		}
	}
}

func TestBasisStandsForItsSet(t *testing.T) {
	rank, set, asks := must[int](t), must[api.Set](t), must[bool](t)
	for _, k := range append(small(), great()...) {
		for _, s := range k.sets() {
			basis := set(matroid.Basis(k.g, setOf(s...)))
			if basis&^setOf(s...) != 0 || !asks(matroid.Free(k.g, basis)) {
				t.Errorf("%s: the basis of %d, %#x, is not in it or not Free", k.name, s, basis)
			}
			if one, other := rank(matroid.Rank(k.g, basis)), rank(matroid.Rank(k.g, setOf(s...))); one != other {
				t.Errorf("%s: %d has the rank %d, its basis %d", k.name, s, other, one)
			}
			if one, other := set(matroid.Span(k.g, basis)), set(matroid.Span(k.g, setOf(s...))); one != other {
				t.Errorf("%s: %d has the span %#x, its basis %#x", k.name, s, other, one)
			}
			if again := set(matroid.Basis(k.g, basis)); again != basis {
				t.Errorf("%s: the basis of %d is %#x, and of that %#x", k.name, s, basis, again)
			}
		}
	}
}

func TestSmallerFreeSetTakesARow(t *testing.T) {
	asks := must[bool](t)
	for _, k := range append(small(), great()...) {
		free := k.freeSets()
		for i, one := range free {
			// Not all of the many, where there are many.
			for other := i % (1 + len(free)/20); other < len(free); other += 1 + len(free)/20 {
				if len(one) >= len(free[other]) {
					continue
				}
				smaller, taken := setOf(one...), false
				for _, row := range subset.List(setOf(free[other]...) &^ smaller) {
					taken = taken || asks(matroid.Free(k.g, smaller|1<<row))
				}
				if !taken {
					t.Errorf("%s: %d takes no row of %d", k.name, one, free[other])
				}
			}
		}
	}
}

// P7.5
func TestCircuitWithoutARowIsFree(t *testing.T) {
	asks := must[bool](t)
	told := 0
	for _, k := range append(small(), great()...) {
		for _, s := range k.freeSets() {
			for _, b := range k.some(k.others(s)) {
				c, ok, e := matroid.Circuit(k.g, b, setOf(s...))
				if e != api.OK {
					t.Fatal(e)
				}
				if !ok {
					continue
				}
				told++
				if !subset.Has(c, b) || c&^setOf(s...) != setOf(b) || asks(matroid.Free(k.g, c)) {
					t.Errorf("%s: the circuit %#x of %d and %d", k.name, c, b, s)
				}
				for _, row := range subset.List(c) {
					if !asks(matroid.Free(k.g, c&^(1<<row))) {
						t.Errorf("%s: the circuit %#x without %d is not Free", k.name, c, row)
					}
				}
			}
		}
	}
	if told == 0 {
		t.Error("no circuit is told")
	}
}

func TestNeededIsNotInTheSpanOfTheOthers(t *testing.T) {
	set := must[api.Set](t)
	for _, k := range append(small(), great()...) {
		for _, s := range k.sets() {
			needed := set(matroid.Needed(k.g, setOf(s...)))
			if needed&^setOf(s...) != 0 {
				t.Errorf("%s: of %d %#x are needed", k.name, s, needed)
			}
			for _, row := range k.some(s) {
				span := set(matroid.Span(k.g, setOf(without(s, row)...)))
				if subset.Has(needed, row) == subset.Has(span, row) {
					t.Errorf("%s: of %d the row %d is needed, and in the span of the others: both %v", k.name, s, row, subset.Has(span, row))
				}
			}
		}
	}
}
