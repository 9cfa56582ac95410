package poly_test

import (
	"bytes"
	"slices"
	"testing"

	"recoup/api"
	"recoup/poly"
)

// slowRoots asks all elements, over the whole list.
func slowRoots(p []byte) []byte {
	var roots []byte
	for _, x := range elements() {
		if len(slowTrim(p)) > 0 && slowEval(p, x) == 0 {
			roots = append(roots, x)
		}
	}
	return roots
}

// rootLists are lists of roots: none, 0, one twice, in no order, all.
func rootLists() [][]byte {
	backwards := elements()
	slices.Reverse(backwards)
	return [][]byte{
		nil, {}, {0}, {0, 0, 0}, {1}, {1, 2}, {2, 1}, {255, 0, 7}, {9, 9}, {9, 4, 9, 4, 4},
		list(30, 1), list(255, 2), list(256, 3), elements(), backwards, elements()[1:],
		append(elements(), elements()[:api.MaxPoly-1-256]...),
	}
}

// eachOnce are the elements of a list, rising.
func eachOnce(a []byte) []byte {
	rising := bytes.Clone(a)
	slices.Sort(rising)
	return slices.Compact(rising)
}

// P2.3
func TestRoots(t *testing.T) {
	for _, length := range []int{1, 2, 3, 4, 64, 255, 256, 257, 258, 510, 511, api.MaxPoly, api.MaxPoly + 1, 766, 3000} {
		for seed := range 5 {
			p := list(length, length+seed)
			want := slowRoots(p)
			if got := poly.Roots(p); !bytes.Equal(got, want) {
				t.Errorf("Roots of %d = %d, want %d", length, got, want)
			}
			if got := poly.Roots(withNoughts(p, 300)); !bytes.Equal(got, want) {
				t.Errorf("Roots of %d and noughts = %d, want %d", length, got, want)
			}
		}
	}
}

func TestRootsAtEdges(t *testing.T) {
	// x to the power 256, and x: 0 everywhere, and not the polynomial 0.
	everywhere := power(1, 256)
	everywhere[1] = 1
	far := power(1, 256*300)
	far[300] = 1
	for _, c := range []struct{ p, want []byte }{
		{[]byte{2, 3, 1}, []byte{1, 2}},
		{[]byte{2, 3, 1, 0, 0}, []byte{1, 2}},
		{[]byte{0, 1}, []byte{0}},
		{[]byte{0, 0, 0, 5}, []byte{0}},
		{[]byte{5}, nil},
		{[]byte{32, 1, 1}, nil},
		{power(3, 255), []byte{0}},
		{power(3, 256), []byte{0}},
		{power(3, 100000), []byte{0}},
		{slowAdd(power(1, 255), []byte{1}), elements()[1:]},
		{everywhere, elements()},
		{withNoughts(everywhere, 1), elements()},
		{far, elements()},
	} {
		if got := poly.Roots(c.p); !bytes.Equal(got, c.want) {
			t.Errorf("Roots of %d = %d, want %d", len(c.p), got, c.want)
		}
	}
	for _, p := range zeros() {
		if got := poly.Roots(p); len(got) != 0 {
			t.Errorf("Roots(%d) = %d", p, got)
		}
	}
}

func TestFromRoots(t *testing.T) {
	for _, roots := range rootLists() {
		got, e := poly.FromRoots(roots...)
		if e != api.OK || !bytes.Equal(got, slowFromRoots(roots)) {
			t.Errorf("FromRoots(%d) = %d, %v", roots, got, e)
		}
		if len(got) != len(roots)+1 || got[len(got)-1] != 1 {
			t.Errorf("FromRoots(%d) = %d", roots, got)
		}
	}
	if got, e := poly.FromRoots(1, 2); e != api.OK || !bytes.Equal(got, []byte{2, 3, 1}) {
		t.Errorf("FromRoots(1, 2) = %d, %v", got, e)
	}
	if got, e := poly.FromRoots(3, 3); e != api.OK || !bytes.Equal(got, []byte{5, 0, 1}) {
		t.Errorf("FromRoots(3, 3) = %d, %v", got, e)
	}
	if got, e := poly.FromRoots(); e != api.OK || !bytes.Equal(got, []byte{1}) {
		t.Errorf("FromRoots() = %d, %v", got, e)
	}
}

func TestFromRootsAboutTheLimit(t *testing.T) {
	for _, made := range []func(length int) []byte{
		func(length int) []byte { return withNoughts(nil, length) },
		func(length int) []byte { return list(length, 5) },
	} {
		most := made(api.MaxPoly - 1)
		if got, e := poly.FromRoots(most...); e != api.OK || !bytes.Equal(got, slowFromRoots(most)) {
			t.Errorf("FromRoots of %d has %d, %v", len(most), len(got), e)
		}
		for _, length := range []int{api.MaxPoly, api.MaxPoly + 1, 100000} {
			if got, e := poly.FromRoots(made(length)...); e != api.ErrLimit || len(got) != 0 {
				t.Errorf("FromRoots of %d has %d, %v", length, len(got), e)
			}
		}
	}
}

// unlike are count elements, no two alike, in an order of their own.
func unlike(count int) []byte {
	var all []byte
	for i := range count {
		all = append(all, byte(i*77+5))
	}
	return all
}

// P2.4: there is just one polynomial with fewer coefficients than points, or as
// many, that goes through all of them.
func TestInterpolate(t *testing.T) {
	for _, count := range []int{1, 2, 3, 4, 17, 64, 255, 256} {
		for seed := range 6 {
			xs, ys := unlike(count), list(count, seed)
			if seed == 0 {
				clear(ys[1:])
			}
			got, e := poly.Interpolate(xs, ys)
			if e != api.OK || len(got) > count || !bytes.Equal(slowTrim(got), got) {
				t.Fatalf("Interpolate of %d points = %d, %v", count, got, e)
			}
			for i, x := range xs {
				if y := slowEval(got, x); y != ys[i] {
					t.Fatalf("Interpolate of %d points is %d at %d, want %d", count, y, x, ys[i])
				}
			}
		}
	}
}

func TestInterpolateAtEdges(t *testing.T) {
	for _, c := range []struct{ xs, ys, want []byte }{
		{[]byte{0, 1}, []byte{5, 4}, []byte{5, 1}},
		{nil, nil, nil},
		{nil, []byte{}, nil},
		{[]byte{}, nil, nil},
		{[]byte{0}, []byte{7}, []byte{7}},
		{[]byte{9}, []byte{7}, []byte{7}},
		{[]byte{9}, []byte{0}, nil},
		{[]byte{0}, []byte{0}, nil},
		{[]byte{3, 0, 200}, []byte{0, 0, 0}, nil},
		{[]byte{3, 0, 200}, []byte{6, 6, 6}, []byte{6}},
		{[]byte{3, 0, 200}, []byte{3, 0, 200}, []byte{0, 1}},
		{elements(), make([]byte, 256), nil},
		{elements(), elements(), []byte{0, 1}},
	} {
		if got, e := poly.Interpolate(c.xs, c.ys); e != api.OK || !bytes.Equal(got, c.want) {
			t.Errorf("Interpolate(%d, %d) = %d, %v", c.xs, c.ys, got, e)
		}
	}
}

func TestInterpolateOfAnElementTwice(t *testing.T) {
	for _, c := range []struct{ xs, ys []byte }{
		{[]byte{1, 1}, []byte{2, 3}},
		{[]byte{1, 1}, []byte{2, 2}},
		{[]byte{0, 0}, []byte{0, 0}},
		{[]byte{4, 0, 5, 0}, []byte{1, 2, 3, 4}},
		{[]byte{4, 0, 5, 4}, []byte{1, 2, 3, 1}},
		{[]byte{4, 5, 5, 4}, []byte{0, 0, 0, 0}},
		{append(elements(), 255), list(257, 1)},
		{append(elements(), 0), make([]byte, 257)},
		{list(api.MaxPoly+1, 1), list(api.MaxPoly+1, 2)},
		{list(100000, 1), list(100000, 2)},
	} {
		if got, e := poly.Interpolate(c.xs, c.ys); e != api.ErrArg || len(got) != 0 {
			t.Errorf("Interpolate(%d, %d) = %d, %v", c.xs, c.ys, got, e)
		}
	}
}

// Two lengths are found ahead of an element that stands twice.
func TestInterpolateOfTwoLengths(t *testing.T) {
	for _, c := range []struct{ xs, ys []byte }{
		{[]byte{1}, nil},
		{nil, []byte{1}},
		{nil, []byte{0}},
		{[]byte{1, 2}, []byte{1, 2, 0}},
		{[]byte{1, 2, 3}, []byte{1, 2}},
		{[]byte{1, 1}, []byte{2}},
		{[]byte{1, 1}, []byte{2, 3, 4}},
		{elements(), list(257, 1)},
		{list(1000, 1), list(999, 2)},
	} {
		if got, e := poly.Interpolate(c.xs, c.ys); e != api.ErrShape || len(got) != 0 {
			t.Errorf("Interpolate(%d, %d) = %d, %v", c.xs, c.ys, got, e)
		}
	}
}
