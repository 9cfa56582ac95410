package matroid_test

import (
	"testing"

	"recoup/api"
	"recoup/matroid"
)

// P7.2
func TestSpans(t *testing.T) {
	for _, k := range append(small(), great()...) {
		for _, s := range k.sets() {
			set := setOf(s...)
			span, e := matroid.Span(k.g, set)
			is(t, "Span", k, s, span, e, setOf(k.span(s)...))
			basis, e := matroid.Basis(k.g, set)
			is(t, "Basis", k, s, basis, e, setOf(k.basis(s)...))
			needed, e := matroid.Needed(k.g, set)
			is(t, "Needed", k, s, needed, e, setOf(k.needed(s)...))
		}
	}
}

func TestSpansOfExamples(t *testing.T) {
	k := small()[0]
	for _, c := range []struct {
		s, span, basis, needed []int
	}{
		{[]int{2}, []int{2, 3, 4}, []int{2}, []int{2}},
		{nil, []int{4}, nil, nil},
		{[]int{2, 3, 4}, []int{2, 3, 4}, []int{2}, nil},
		{[]int{0, 1, 2}, []int{0, 1, 2, 3, 4}, []int{0, 1}, nil},
		{[]int{0, 2, 3}, []int{0, 1, 2, 3, 4}, []int{0, 2}, []int{0}},
		{[]int{4}, []int{4}, nil, nil},
		{[]int{0, 4}, []int{0, 4}, []int{0}, []int{0}},
		{[]int{1, 3}, []int{0, 1, 2, 3, 4}, []int{1, 3}, []int{1, 3}},
	} {
		set := setOf(c.s...)
		span, e := matroid.Span(k.g, set)
		is(t, "Span", k, c.s, span, e, setOf(c.span...))
		basis, e := matroid.Basis(k.g, set)
		is(t, "Basis", k, c.s, basis, e, setOf(c.basis...))
		needed, e := matroid.Needed(k.g, set)
		is(t, "Needed", k, c.s, needed, e, setOf(c.needed...))
	}
}

// Rows without columns are noughts, which are in every span, in no basis, and
// never needed.
func TestSpansOfNoughts(t *testing.T) {
	for _, rows := range []int{0, 1, 5, 63, 64} {
		for _, cols := range []int{0, 1, 5, 64} {
			k := reduced("noughts", noughts(rows, cols))
			for _, s := range [][]int{nil, rising(0, rows), rising(rows/2, rows)} {
				set := setOf(s...)
				span, e := matroid.Span(k.g, set)
				is(t, "Span", k, s, span, e, setOf(rising(0, rows)...))
				basis, e := matroid.Basis(k.g, set)
				is(t, "Basis", k, s, basis, e, 0)
				needed, e := matroid.Needed(k.g, set)
				is(t, "Needed", k, s, needed, e, 0)
			}
		}
	}
}

// A set that is its own basis, all of it needed: all of the rows that may be.
func TestSpansOfAllRows(t *testing.T) {
	const all = api.Set(1<<64 - 1)
	for _, g := range []api.Matrix{identity(64), invertible(64, 1)} {
		k := reduced("all rows", g)
		for _, call := range calls() {
			s, e := call.ask(g, all)
			is(t, call.name, k, rising(0, 64), s, e, all)
			s, e = call.ask(g, 1<<63)
			is(t, call.name, k, []int{63}, s, e, 1<<63)
			s, e = call.ask(g, 0)
			is(t, call.name, k, nil, s, e, 0)
		}
	}
}

// Of rows that are alike the first is the basis, and none is needed.
func TestSpansOfRowsThatAreAlike(t *testing.T) {
	g := noughts(64, 3)
	for i := range 64 {
		copy(row(g, i), []byte{7, 0, 9})
	}
	k := reduced("alike", g)
	for _, s := range [][]int{{0, 63}, {5, 6}, {62, 63}, rising(0, 64), rising(9, 40)} {
		set := setOf(s...)
		span, e := matroid.Span(g, set)
		is(t, "Span", k, s, span, e, 1<<64-1)
		basis, e := matroid.Basis(g, set)
		is(t, "Basis", k, s, basis, e, setOf(s[0]))
		needed, e := matroid.Needed(g, set)
		is(t, "Needed", k, s, needed, e, 0)
	}
}

// Of all rows of two elements just the multiples of one are in its span.
func TestSpanOfOneRow(t *testing.T) {
	for _, one := range [][2]byte{{1, 2}, {3, 0}, {0, 7}, {200, 201}} {
		multiples := map[[2]byte]int{}
		for factor := range 256 {
			multiples[[2]byte{products[factor][one[0]], products[factor][one[1]]}] = 1
		}
		for from := 0; from < 65536; from += 63 {
			g := noughts(64, 2)
			copy(row(g, 63), one[:])
			want := setOf(63)
			for i := range 63 {
				other := [2]byte{byte((from + i) >> 8), byte(from + i)}
				copy(row(g, i), other[:])
				want += setOf(i) * api.Set(multiples[other])
			}
			if span, e := matroid.Span(g, 1<<63); e != api.OK || span != want {
				t.Fatalf("Span of %d = %#x, %v, want %#x", one, span, e, want)
			}
		}
	}
}

// asked is a call that tells a set of a matrix and of a set.
type asked struct {
	name string
	ask  func(g api.Matrix, s api.Set) (api.Set, api.Errno)
}

func calls() []asked {
	return []asked{{"Span", matroid.Span}, {"Basis", matroid.Basis}, {"Needed", matroid.Needed}}
}
