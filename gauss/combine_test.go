package gauss_test

import (
	"bytes"
	"slices"
	"testing"

	"recoup/api"
	"recoup/gauss"
)

// tells tells where a call did not answer this list and true.
func tells(t *testing.T, what string, got []byte, ok bool, e api.Errno, want []byte) {
	t.Helper()
	if !bytes.Equal(got, want) || !ok || e != api.OK {
		t.Errorf("%s = %d, %v, %v, want %d", what, got, ok, e, want)
	}
}

// tellsNothing tells where a call did not answer none and false, and this
// error.
func tellsNothing(t *testing.T, what string, got []byte, ok bool, e, want api.Errno) {
	t.Helper()
	if len(got) != 0 || ok || e != want {
		t.Errorf("%s = %d, %v, %v, want %v", what, got, ok, e, want)
	}
}

// otherLengths are lengths that are not this one.
func otherLengths(length int) []int {
	others := []int{0, 1, length - 1, length + 1, 2 * length, 65, 4096}
	return slices.DeleteFunc(others, func(n int) bool { return n < 0 || n == length })
}

// P4.3
func TestFirst(t *testing.T) {
	for seed := range 3 {
		for _, l := range allLayered(seed) {
			namesFirst(t, l)
		}
	}
}

func TestFirstOfSmallOnes(t *testing.T) {
	for seed := range 40 {
		for rows := range 6 {
			for cols := range 6 {
				for rank := range min(rows, cols) + 1 {
					namesFirst(t, layeredOf(rows, cols, rank, seed))
				}
			}
		}
	}
}

func namesFirst(t *testing.T, l layered) {
	t.Helper()
	got, e := gauss.First(l.m)
	if !slices.Equal(got, l.first) || e != api.OK {
		t.Errorf("First of %d x %d = %d, %v, want %d", l.m.Rows, l.m.Cols, got, e, l.first)
	}
}

func TestFirstOfExamples(t *testing.T) {
	for _, c := range []struct {
		m    api.Matrix
		want []int
	}{
		{of(2, 0, 0, 1, 2, 2, 4, 0, 1), []int{1, 3}},
		{of(2, 0, 1, 0, 0, 1, 0), []int{0, 2}},
		{of(1, 0, 0, 5, 7), []int{2}},
		{api.Matrix{}, nil},
		{api.Matrix{Cols: 64}, nil},
		{api.Matrix{Rows: 64}, nil},
		{noughts(64, 64), nil},
	} {
		namesFirst(t, layered{m: c.m, first: c.want})
	}
}

func TestFirstOfOnesThatAreNotRight(t *testing.T) {
	for _, m := range wrong() {
		if got, e := gauss.First(m); len(got) != 0 || e != api.ErrShape {
			t.Errorf("First of %d rows, %d columns, %d elements = %d, %v", m.Rows, m.Cols, len(m.Data), got, e)
		}
	}
}

func TestCombine(t *testing.T) {
	for _, l := range allLayered(5) {
		from := seeded(6)
		for range 3 {
			factors := withNoughts(l.m.Rows, l.first, from)
			y := slowCombination(factors, l.m)
			by, ok, e := gauss.Combine(l.m, y)
			tells(t, "Combine", by, ok, e, factors)
			if l.another == nil {
				continue
			}
			by, ok, e = gauss.Combine(l.m, slowSum(y, l.another))
			tellsNothing(t, "Combine of no combination", by, ok, e, api.OK)
		}
	}
}

// The row of noughts is a combination of any rows, of none too.
func TestCombineOfNoughts(t *testing.T) {
	for _, rows := range sides() {
		for _, cols := range sides() {
			for _, m := range []api.Matrix{filled(rows, cols, 1), noughts(rows, cols)} {
				by, ok, e := gauss.Combine(m, make([]byte, cols))
				tells(t, "Combine of noughts", by, ok, e, make([]byte, rows))
			}
		}
	}
}

// A row of m is one time itself, if First names it, and else a combination of
// those above it.
func TestCombineOfEachRow(t *testing.T) {
	for _, l := range []layered{layeredOf(8, 5, 3, 1), layeredOf(8, 5, 5, 2), layeredOf(64, 64, 40, 3)} {
		for i := range l.m.Rows {
			by, ok, e := gauss.Combine(l.m, row(l.m, i))
			if slices.Contains(l.first, i) {
				want := make([]byte, l.m.Rows)
				want[i] = 1
				tells(t, "Combine of a row that First names", by, ok, e, want)
				continue
			}
			if !ok || e != api.OK || !bytes.Equal(slowCombination(by, l.m), row(l.m, i)) || !bytes.Equal(by[i:], make([]byte, l.m.Rows-i)) {
				t.Errorf("Combine of row %d = %d, %v, %v", i, by, ok, e)
			}
		}
	}
}

// Of all rows of two elements that may be: whether one is a multiple of
// another is looked up among all multiples.
func TestCombineOfOneRow(t *testing.T) {
	for _, m := range []api.Matrix{of(2, 1, 2), of(2, 3, 0), of(2, 0, 7), of(2, 0, 0)} {
		multiples := map[[2]byte]byte{}
		for factor := 255; factor >= 0; factor-- {
			multiple := slowCombination([]byte{byte(factor)}, m)
			multiples[[2]byte(multiple)] = byte(factor)
		}
		for y := range 65536 {
			first, second := byte(y>>8), byte(y)
			by, ok, e := gauss.Combine(m, []byte{first, second})
			if factor, is := multiples[[2]byte{first, second}]; is {
				tells(t, "Combine", by, ok, e, []byte{factor})
			} else {
				tellsNothing(t, "Combine", by, ok, e, api.OK)
			}
		}
	}
}

func TestCombineOfExamples(t *testing.T) {
	by, ok, e := gauss.Combine(of(2, 0, 0, 1, 2, 2, 4, 0, 1), []byte{3, 6})
	tells(t, "Combine(it, 3 6)", by, ok, e, []byte{0, 3, 0, 0})
	by, ok, e = gauss.Combine(of(2, 1, 2), []byte{0, 1})
	tellsNothing(t, "Combine(1 2, 0 1)", by, ok, e, api.OK)
	by, ok, e = gauss.Combine(of(2, 1, 2, 2, 4), []byte{2, 4})
	tells(t, "Combine(1 2 / 2 4, 2 4)", by, ok, e, []byte{2, 0})
	by, ok, e = gauss.Combine(api.Matrix{Cols: 1}, []byte{0})
	tells(t, "Combine of no rows and 0", by, ok, e, nil)
	by, ok, e = gauss.Combine(api.Matrix{Cols: 1}, []byte{1})
	tellsNothing(t, "Combine of no rows and 1", by, ok, e, api.OK)
	by, ok, e = gauss.Combine(api.Matrix{Rows: 3}, nil)
	tells(t, "Combine of three rows without columns", by, ok, e, []byte{0, 0, 0})
	by, ok, e = gauss.Combine(api.Matrix{}, nil)
	tells(t, "Combine of no rows and no columns", by, ok, e, nil)
}

func TestCombineOfOnesThatDoNotFit(t *testing.T) {
	for _, rows := range sides() {
		for _, cols := range sides() {
			for _, length := range otherLengths(cols) {
				by, ok, e := gauss.Combine(filled(rows, cols, 1), list(length, 2))
				tellsNothing(t, "Combine of another length", by, ok, e, api.ErrShape)
				by, ok, e = gauss.Combine(noughts(rows, cols), make([]byte, length))
				tellsNothing(t, "Combine of noughts of another length", by, ok, e, api.ErrShape)
			}
		}
	}
	for _, m := range wrong() {
		for _, length := range []int{0, 1, 2, 3, 63, 64, 65} {
			by, ok, e := gauss.Combine(m, list(length, 1))
			tellsNothing(t, "Combine of one that is not right", by, ok, e, api.ErrShape)
		}
	}
}
