package matroid_test

import (
	"testing"

	"recoup/api"
	"recoup/matroid"
)

// P7.1
func TestRanks(t *testing.T) {
	for _, k := range append(small(), great()...) {
		for _, s := range k.sets() {
			want := k.rank(s)
			rank, e := matroid.Rank(k.g, setOf(s...))
			is(t, "Rank", k, s, rank, e, want)
			free, e := matroid.Free(k.g, setOf(s...))
			is(t, "Free", k, s, free, e, want == len(s))
			covers, e := matroid.Covers(k.g, setOf(s...))
			is(t, "Covers", k, s, covers, e, want == k.g.Cols)
		}
	}
}

func TestRanksOfExamples(t *testing.T) {
	k := small()[0]
	for _, c := range []struct {
		s            []int
		rank         int
		free, covers bool
	}{
		{[]int{0, 1, 2}, 2, false, true},
		{[]int{2, 3}, 1, false, false},
		{nil, 0, true, false},
		{[]int{0, 2}, 2, true, true},
		{[]int{4}, 0, false, false},
		{[]int{0, 4}, 1, false, false},
		{[]int{3}, 1, true, false},
		{[]int{0, 1, 2, 3, 4}, 2, false, true},
	} {
		rank, e := matroid.Rank(k.g, setOf(c.s...))
		is(t, "Rank", k, c.s, rank, e, c.rank)
		free, e := matroid.Free(k.g, setOf(c.s...))
		is(t, "Free", k, c.s, free, e, c.free)
		covers, e := matroid.Covers(k.g, setOf(c.s...))
		is(t, "Covers", k, c.s, covers, e, c.covers)
	}
}

// Where there are no columns all rows are noughts, and none has to be covered.
func TestRanksWithoutColumns(t *testing.T) {
	for _, rows := range []int{0, 1, 5, 64} {
		k := reduced("no columns", noughts(rows, 0))
		for _, s := range [][]int{nil, rising(0, rows)} {
			rank, e := matroid.Rank(k.g, setOf(s...))
			is(t, "Rank", k, s, rank, e, 0)
			free, e := matroid.Free(k.g, setOf(s...))
			is(t, "Free", k, s, free, e, len(s) == 0)
			covers, e := matroid.Covers(k.g, setOf(s...))
			is(t, "Covers", k, s, covers, e, true)
		}
	}
}

// Where there are no rows only the empty set is one, which is Free always.
func TestRanksWithoutRows(t *testing.T) {
	for _, cols := range []int{0, 1, 5, 64} {
		k := reduced("no rows", noughts(0, cols))
		rank, e := matroid.Rank(k.g, 0)
		is(t, "Rank", k, nil, rank, e, 0)
		free, e := matroid.Free(k.g, 0)
		is(t, "Free", k, nil, free, e, true)
		covers, e := matroid.Covers(k.g, 0)
		is(t, "Covers", k, nil, covers, e, cols == 0)
	}
}

// Rows with the number 63, as the only ones that are not noughts, and not.
func TestRanksOfTheLastRow(t *testing.T) {
	g := noughts(64, 1)
	g.Data[63] = 5
	k := reduced("the last row alone", g)
	last, others := []int{63}, rising(0, 63)
	rank, e := matroid.Rank(g, setOf(last...))
	is(t, "Rank", k, last, rank, e, 1)
	rank, e = matroid.Rank(g, setOf(others...))
	is(t, "Rank", k, others, rank, e, 0)
	free, e := matroid.Free(g, setOf(last...))
	is(t, "Free", k, last, free, e, true)
	covers, e := matroid.Covers(g, setOf(last...))
	is(t, "Covers", k, last, covers, e, true)
	covers, e = matroid.Covers(g, setOf(others...))
	is(t, "Covers", k, others, covers, e, false)
	all := setOf(rising(0, 64)...)
	rank, e = matroid.Rank(g, all)
	is(t, "Rank", k, rising(0, 64), rank, e, 1)
	if all != 1<<64-1 {
		t.Errorf("the set of all is %#x", all)
	}
}

// is tells where a call over k and s did not answer this without an error.
func is[T comparable](t *testing.T, what string, k known, s []int, got T, e api.Errno, want T) {
	t.Helper()
	if e != api.OK || got != want {
		t.Errorf("%s of %s, %d x %d, and %d = %v, %v, want %v", what, k.name, k.g.Rows, k.g.Cols, s, got, e, want)
	}
}
