package shape_test

import (
	"fmt"
	"math"
	"math/big"
	"testing"

	"recoup/api"
	"recoup/shape"
)

// is tells where a call did not answer this code without an error.
func is(t *testing.T, what string, got api.Code, e api.Errno, want api.Code) {
	t.Helper()
	if e != api.OK || !alike(got, want) {
		t.Errorf("%s = %v, %v, want %v", what, got, e, want)
	}
}

// fails tells where a call did not answer this error and nothing beside it.
func fails(t *testing.T, what string, got api.Code, e, want api.Errno) {
	t.Helper()
	if e != want || !alike(got, api.Code{}) {
		t.Errorf("%s = %v, %v, want %v", what, got, e, want)
	}
}

// someInts are counts that may be, those about their bounds, and such as great
// and as small as an int can be.
func someInts() []int {
	return []int{math.MinInt, math.MinInt + 1, math.MinInt / 2, -1 << 32, -65, -64, -2, -1, 0, 1, 2, 3, 4, 31, 32, 33, 60, 61, 62, 63, 64, 65, 66, 128, 1 << 31, 1 << 32, 1 << 33,
		math.MaxInt / 2, math.MaxInt/2 + 1, math.MaxInt - 64, math.MaxInt - 63, math.MaxInt - 1, math.MaxInt}
}

// tooMany adds counts up without a bound.
func tooMany(counts ...int) bool {
	sum := new(big.Int)
	for _, n := range counts {
		sum.Add(sum, big.NewInt(int64(n)))
	}
	return sum.Cmp(big.NewInt(64)) > 0
}

// plain are the calls that make codes of two numbers, and what they make.
func plain() map[string][2]func(k, m int) (api.Code, api.Errno) {
	model := func(make func(k, m int) api.Matrix) func(k, m int) (api.Code, api.Errno) {
		return func(k, m int) (api.Code, api.Errno) {
			switch {
			case k < 1 || m < 0:
				return api.Code{}, api.ErrArg
			case tooMany(k, m):
				return api.Code{}, api.ErrLimit
			}
			return api.Code{G: make(k, m)}, api.OK
		}
	}
	return map[string][2]func(k, m int) (api.Code, api.Errno){
		"Reed":  {shape.Reed, model(slowReed)},
		"Cross": {shape.Cross, model(slowCross)},
	}
}

// P16.2
func TestPlainCodes(t *testing.T) {
	for name, calls := range plain() {
		for k := 1; k <= 64; k++ {
			for m := 0; k+m <= 66; m++ {
				if k > 12 && m > 3 && k+m < 62 && (k+m)%7 > 0 {
					continue
				}
				agree(t, name, calls, k, m)
			}
		}
	}
}

// P16.2: two errors at once, sums that would come round.
func TestPlainCodesOfAnyNumbers(t *testing.T) {
	for name, calls := range plain() {
		for _, k := range someInts() {
			for _, m := range someInts() {
				agree(t, name, calls, k, m)
			}
		}
	}
}

func agree(t *testing.T, name string, calls [2]func(k, m int) (api.Code, api.Errno), k, m int) {
	t.Helper()
	what := fmt.Sprintf("%s(%d, %d)", name, k, m)
	got, e := calls[0](k, m)
	want, fault := calls[1](k, m)
	if fault != api.OK {
		fails(t, what, got, e, fault)
		return
	}
	is(t, what, got, e, want)
}

// P16.2: the document's examples, and known ones.
func TestPlainCodesThatAreKnown(t *testing.T) {
	for _, c := range []struct {
		make func(k, m int) (api.Code, api.Errno)
		k, m int
		g    api.Matrix
	}{
		{shape.Reed, 1, 0, of(1, 1)},
		{shape.Cross, 1, 0, of(1, 1)},
		{shape.Reed, 1, 2, of(1, 1, 1, 1)},
		{shape.Cross, 1, 2, of(1, 1, 1, 142)},
		{shape.Reed, 2, 1, of(2, 1, 0, 0, 1, 3, 2)},
		{shape.Cross, 2, 1, of(2, 1, 0, 0, 1, 142, 244)},
		{shape.Reed, 64, 0, identity(64)},
		{shape.Cross, 64, 0, identity(64)},
	} {
		got, e := c.make(c.k, c.m)
		is(t, fmt.Sprint("a known code of ", c.k, " and ", c.m), got, e, api.Code{G: c.g})
	}
	for _, c := range []struct {
		k, m int
		e    api.Errno
	}{
		{0, 1, api.ErrArg}, {1, -1, api.ErrArg}, {0, -1, api.ErrArg}, {0, 65, api.ErrArg}, {65, -1, api.ErrArg},
		{math.MaxInt, math.MinInt, api.ErrArg}, {math.MinInt, math.MaxInt, api.ErrArg},
		{63, 2, api.ErrLimit}, {64, 1, api.ErrLimit}, {65, 0, api.ErrLimit}, {1, 64, api.ErrLimit},
		{math.MaxInt, math.MaxInt, api.ErrLimit}, {math.MaxInt, 1, api.ErrLimit}, {1, math.MaxInt, api.ErrLimit},
	} {
		got, e := shape.Reed(c.k, c.m)
		fails(t, fmt.Sprintf("Reed(%d, %d)", c.k, c.m), got, e, c.e)
		got, e = shape.Cross(c.k, c.m)
		fails(t, fmt.Sprintf("Cross(%d, %d)", c.k, c.m), got, e, c.e)
	}
}

// P16.6
func TestExplicit(t *testing.T) {
	for _, rows := range []int{0, 1, 2, 3, 5, 32, 63, 64} {
		for _, cols := range []int{0, 1, 2, 3, 5, 32, 63, 64} {
			for _, g := range []api.Matrix{filled(rows, cols, 1), noughts(rows, cols)} {
				got, e := shape.Explicit(g)
				what := fmt.Sprintf("Explicit of %d x %d", rows, cols)
				if cols < 1 || rows < cols {
					fails(t, what, got, e, api.ErrShape)
				} else {
					is(t, what, got, e, api.Code{G: g})
				}
			}
		}
	}
	for _, g := range append(wrong(), flat()...) {
		got, e := shape.Explicit(g)
		fails(t, "Explicit of what is no generator", got, e, api.ErrShape)
	}
	got, e := shape.Explicit(of(2, 1, 2))
	fails(t, "Explicit(1 2)", got, e, api.ErrShape)
	for _, g := range someMatrices() {
		got, e := shape.Explicit(g)
		is(t, "Explicit", got, e, api.Code{G: g})
	}
}
