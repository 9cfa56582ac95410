package shape_test

import (
	"fmt"
	"math"
	"testing"

	"recoup/api"
	"recoup/shape"
)

// portioned are the calls that make codes of portions, and what they make.
func portioned() map[string]struct {
	call  func(k, l, m int) (api.Code, api.Errno)
	model func(k, l, m int) api.Code
} {
	return map[string]struct {
		call  func(k, l, m int) (api.Code, api.Errno)
		model func(k, l, m int) api.Code
	}{
		"Local":   {shape.Local, slowLocal},
		"Pyramid": {shape.Pyramid, slowPyramid},
	}
}

// everyPortions goes through all codes of portions that there are.
func everyPortions(do func(k, l, m int)) {
	for k := 1; k <= 63; k++ {
		for l := 1; l <= k; l++ {
			for m := 0; k%l == 0 && k+l+m <= 64; m++ {
				do(k, l, m)
			}
		}
	}
}

// P16.3, P16.4
func TestPortions(t *testing.T) {
	for name, c := range portioned() {
		everyPortions(func(k, l, m int) {
			got, e := c.call(k, l, m)
			is(t, fmt.Sprintf("%s(%d, %d, %d)", name, k, l, m), got, e, c.model(k, l, m))
		})
	}
}

// P16.3, P16.4: which error there is, the first of two, and no sum that comes
// round.
func TestPortionsOfAnyNumbers(t *testing.T) {
	for name, c := range portioned() {
		for _, k := range someInts() {
			for _, l := range someInts() {
				for _, m := range someInts() {
					what := fmt.Sprintf("%s(%d, %d, %d)", name, k, l, m)
					got, e := c.call(k, l, m)
					switch {
					case k < 1 || l < 1 || m < 0 || k%l != 0:
						fails(t, what, got, e, api.ErrArg)
					case tooMany(k, l, m):
						fails(t, what, got, e, api.ErrLimit)
					default:
						is(t, what, got, e, c.model(k, l, m))
					}
				}
			}
		}
	}
}

// P16.3, P16.4: just MaxSide blocks, and one more.
func TestPortionsAtTheLimit(t *testing.T) {
	for name, c := range portioned() {
		for k := 1; k <= 64; k++ {
			for l := 1; l <= k; l++ {
				if k%l != 0 {
					continue
				}
				if m := 64 - k - l; m >= 0 {
					got, e := c.call(k, l, m)
					is(t, fmt.Sprintf("%s(%d, %d, %d)", name, k, l, m), got, e, c.model(k, l, m))
				}
				m := max(65-k-l, 0)
				got, e := c.call(k, l, m)
				fails(t, fmt.Sprintf("%s(%d, %d, %d)", name, k, l, m), got, e, api.ErrLimit)
			}
		}
	}
}

func TestPortionsThatAreKnown(t *testing.T) {
	local, pyramid := shape.Local, shape.Pyramid
	for _, c := range []struct {
		make    func(k, l, m int) (api.Code, api.Errno)
		k, l, m int
		want    api.Code
	}{
		{local, 4, 2, 0, code(of(4, 1, 0, 0, 0, 0, 1, 0, 0, 0, 0, 1, 0, 0, 0, 0, 1, 1, 1, 0, 0, 0, 0, 1, 1), set(0, 1, 4), set(2, 3, 5))},
		{local, 1, 1, 0, code(of(1, 1, 1), set(0, 1))},
		{local, 1, 1, 1, code(of(1, 1, 1, 1), set(0, 1))},
		{local, 2, 2, 0, code(of(2, 1, 0, 0, 1, 1, 0, 0, 1), set(0, 2), set(1, 3))},
		{local, 2, 1, 1, code(of(2, 1, 0, 0, 1, 1, 1, 142, 244), set(0, 1, 2))},
		{pyramid, 1, 1, 0, code(of(1, 1, 1), set(0, 1))},
		{pyramid, 1, 1, 1, code(of(1, 1, 1, 142), set(0, 1))},
		{pyramid, 2, 2, 0, code(of(2, 1, 0, 0, 1, 142, 0, 0, 244), set(0, 2), set(1, 3))},
		{pyramid, 2, 1, 1, code(of(2, 1, 0, 0, 1, 142, 244, 244, 142), set(0, 1, 2))},
		{pyramid, 2, 2, 1, code(of(2, 1, 0, 0, 1, 142, 0, 0, 244, 244, 142), set(0, 2), set(1, 3))},
	} {
		got, e := c.make(c.k, c.l, c.m)
		is(t, fmt.Sprint("a known code of ", c.k, " ", c.l, " ", c.m), got, e, c.want)
	}
	for _, c := range []struct {
		k, l, m int
		e       api.Errno
	}{
		{4, 3, 0, api.ErrArg}, {1, 1, -1, api.ErrArg}, {0, 1, 0, api.ErrArg}, {1, 0, 0, api.ErrArg}, {0, 0, 0, api.ErrArg},
		{-2, -1, 0, api.ErrArg}, {-2, 1, 0, api.ErrArg}, {2, -1, 0, api.ErrArg}, {2, 4, 0, api.ErrArg}, {1, 2, 0, api.ErrArg},
		// An error of both kinds: the number that may not be is told.
		{60, 7, 10, api.ErrArg}, {100, 3, 0, api.ErrArg}, {64, 1, -1, api.ErrArg}, {1000, 0, 1000, api.ErrArg}, {0, 100, 100, api.ErrArg},
		{math.MinInt, -1, 0, api.ErrArg}, {math.MinInt, math.MinInt, 0, api.ErrArg}, {math.MaxInt, 2, 0, api.ErrArg},
		{math.MaxInt, math.MaxInt, math.MinInt, api.ErrArg}, {math.MinInt, math.MaxInt, math.MaxInt, api.ErrArg},
		{60, 4, 1, api.ErrLimit}, {32, 32, 1, api.ErrLimit}, {64, 1, 0, api.ErrLimit}, {33, 33, 0, api.ErrLimit}, {1, 1, 63, api.ErrLimit},
		{math.MaxInt, math.MaxInt, math.MaxInt, api.ErrLimit}, {math.MaxInt, 1, 0, api.ErrLimit}, {1, 1, math.MaxInt, api.ErrLimit},
		{math.MaxInt, math.MaxInt, 0, api.ErrLimit}, {1 << 62, 1 << 62, 1 << 62, api.ErrLimit}, {1, 1, math.MaxInt - 1, api.ErrLimit},
	} {
		for name, calls := range portioned() {
			got, e := calls.call(c.k, c.l, c.m)
			fails(t, fmt.Sprintf("%s(%d, %d, %d)", name, c.k, c.l, c.m), got, e, c.e)
		}
	}
}
