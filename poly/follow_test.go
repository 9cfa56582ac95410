package poly_test

import (
	"bytes"
	"testing"

	"recoup/api"
	"recoup/field"
	"recoup/poly"
)

// P2.6
func TestEvalGoesThroughSumsAndProducts(t *testing.T) {
	for _, p := range operands() {
		for _, q := range operands() {
			sum, _ := poly.Add(p, q)
			product, _ := poly.Mul(p, q)
			for _, x := range []byte{0, 1, 2, 77, 142, 255} {
				a, b := poly.Eval(p, x), poly.Eval(q, x)
				if got := poly.Eval(sum, x); got != field.Add(a, b) {
					t.Fatalf("at %d the sum of %d and %d is %d", x, p, q, got)
				}
				if got := poly.Eval(product, x); got != field.Mul(a, b) {
					t.Fatalf("at %d the product of %d and %d is %d", x, p, q, got)
				}
			}
		}
	}
}

func TestDegreeOfProducts(t *testing.T) {
	for _, p := range operands() {
		for _, q := range operands() {
			product, e := poly.Mul(p, q)
			want := poly.Degree(p) + poly.Degree(q)
			if len(p) == 0 || len(q) == 0 {
				want = -1
			}
			if got := poly.Degree(product); e != api.OK || got != want {
				t.Fatalf("the product of %d and %d has the degree %d, want %d", p, q, got, want)
			}
		}
	}
}

func TestNoMoreRootsThanTheDegree(t *testing.T) {
	for _, p := range append(operands(), atLimit()...) {
		if roots := poly.Roots(p); len(roots) > max(0, poly.Degree(p)) {
			t.Errorf("Roots(%d) = %d", p, roots)
		}
	}
}

func TestRootsOfFromRoots(t *testing.T) {
	for _, roots := range rootLists() {
		p, e := poly.FromRoots(roots...)
		if got := poly.Roots(p); e != api.OK || !bytes.Equal(got, eachOnce(roots)) {
			t.Errorf("FromRoots(%d) has the roots %d", roots, got)
		}
	}
}

// points are the values of p at xs.
func points(p, xs []byte) []byte {
	var ys []byte
	for _, x := range xs {
		ys = append(ys, poly.Eval(p, x))
	}
	return ys
}

func TestInterpolateOfPointsOnAPolynomial(t *testing.T) {
	for _, p := range [][]byte{{7}, {0, 1}, {2, 3, 1}, {0, 0, 0, 9}, list(17, 1), list(200, 2), list(256, 3)} {
		for _, count := range []int{0, 1, 2, len(p) - 1, len(p), len(p) + 1, len(p) + 40, 256} {
			if count > 256 {
				continue
			}
			xs := unlike(count)
			got, e := poly.Interpolate(xs, points(p, xs))
			if found := bytes.Equal(got, p); e != api.OK || found != (count >= len(p)) {
				t.Errorf("Interpolate of %d points on %d = %d, %v", count, p, got, e)
			}
		}
	}
}
