package poly_test

import (
	"bytes"
	"testing"

	"recoup/api"
	"recoup/poly"
)

// operands are polynomials without a nought at their end, from 0 up to a
// length at which all products still have room.
func operands() [][]byte {
	all := [][]byte{nil, {1}, {7}, {1, 1}, {0, 1}, {2, 3, 1}, {0, 0, 0, 9}, power(1, 255), power(200, 255)}
	for _, length := range []int{2, 3, 5, 8, 33, 100, 256} {
		all = append(all, list(length, length), list(length, length+1000))
	}
	return all
}

// atLimit are polynomials that may just be handed in: of MaxPoly coefficients,
// with and without noughts at the end.
func atLimit() [][]byte {
	full := list(api.MaxPoly, 7)
	return [][]byte{full, withNoughts(full, 1), withNoughts(full, 500), withNoughts(list(4, 1), 2*api.MaxPoly)}
}

// tooLong are polynomials of more than MaxPoly coefficients.
func tooLong() [][]byte {
	one := list(api.MaxPoly+1, 3)
	return [][]byte{one, withNoughts(one, 4), power(1, api.MaxPoly), list(10000, 4)}
}

// P2.2
func TestSums(t *testing.T) {
	for _, p := range operands() {
		for _, q := range operands() {
			want := slowAdd(p, q)
			if got, e := poly.Add(p, q); e != api.OK || !bytes.Equal(got, want) {
				t.Fatalf("Add(%d, %d) = %d, %v, want %d", p, q, got, e, want)
			}
			if got, e := poly.Add(withNoughts(p, 3), withNoughts(q, 700)); e != api.OK || !bytes.Equal(got, want) {
				t.Fatalf("Add(%d, %d) with noughts = %d, %v, want %d", p, q, got, e, want)
			}
		}
	}
}

func TestSumsThatGetShorter(t *testing.T) {
	for _, c := range []struct{ p, q, want []byte }{
		{[]byte{1, 2}, []byte{1}, []byte{0, 2}},
		{[]byte{1, 2}, []byte{1, 2, 0}, nil},
		{[]byte{1, 2, 3, 4}, []byte{9, 2, 3, 4}, []byte{8}},
		{[]byte{1, 0, 0, 4}, []byte{0, 0, 0, 4}, []byte{1}},
	} {
		if got, e := poly.Add(c.p, c.q); e != api.OK || !bytes.Equal(got, c.want) {
			t.Errorf("Add(%d, %d) = %d, %v", c.p, c.q, got, e)
		}
	}
	for _, p := range atLimit() {
		if got, e := poly.Add(p, p); e != api.OK || len(got) != 0 {
			t.Errorf("Add of a polynomial and itself = %d, %v", got, e)
		}
	}
}

func TestProducts(t *testing.T) {
	for _, p := range operands() {
		for _, q := range operands() {
			want := slowMul(p, q)
			if got, e := poly.Mul(p, q); e != api.OK || !bytes.Equal(got, want) {
				t.Fatalf("Mul(%d, %d) = %d, %v, want %d", p, q, got, e, want)
			}
			if got, e := poly.Mul(withNoughts(p, 700), withNoughts(q, 3)); e != api.OK || !bytes.Equal(got, want) {
				t.Fatalf("Mul(%d, %d) with noughts = %d, %v, want %d", p, q, got, e, want)
			}
		}
	}
}

func TestProductsAboutTheLimit(t *testing.T) {
	for _, length := range []int{1, 2, 100, 256, 257, 511, api.MaxPoly} {
		p, q := list(length, 1), list(api.MaxPoly-length+1, 2)
		got, e := poly.Mul(withNoughts(p, 2), q)
		if e != api.OK || len(got) != api.MaxPoly || !bytes.Equal(got, slowMul(p, q)) {
			t.Errorf("Mul of %d and %d has %d, %v", len(p), len(q), len(got), e)
		}
		q = list(api.MaxPoly-length+2, 2)
		if got, e := poly.Mul(p, withNoughts(q, 1)); e != api.ErrLimit || len(got) != 0 {
			t.Errorf("Mul of %d and %d has %d, %v", len(p), len(q), len(got), e)
		}
	}
	for _, p := range atLimit() {
		for _, zero := range zeros() {
			if got, e := poly.Mul(p, zero); e != api.OK || len(got) != 0 {
				t.Errorf("Mul of a long polynomial and 0 = %d, %v", got, e)
			}
			if got, e := poly.Mul(zero, p); e != api.OK || len(got) != 0 {
				t.Errorf("Mul of 0 and a long polynomial = %d, %v", got, e)
			}
		}
	}
}

// divided asks of an answer of DivMod all that is promised of it.
func divided(t *testing.T, p, q, quo, rem []byte, e api.Errno) {
	t.Helper()
	p, q = slowTrim(p), slowTrim(q)
	if e != api.OK || len(rem) >= len(q) || !bytes.Equal(slowAdd(slowMul(quo, q), rem), p) {
		t.Fatalf("DivMod(%d, %d) = %d, %d, %v", p, q, quo, rem, e)
	}
	if !bytes.Equal(slowTrim(quo), quo) || !bytes.Equal(slowTrim(rem), rem) {
		t.Fatalf("DivMod(%d, %d) = %d, %d, not trimmed", p, q, quo, rem)
	}
}

func TestQuotientsAndRemainders(t *testing.T) {
	dividends := append(operands(), atLimit()...)
	for _, p := range dividends {
		for _, q := range dividends {
			if len(q) == 0 {
				continue
			}
			quo, rem, e := poly.DivMod(p, q)
			divided(t, p, q, quo, rem, e)
			quo, rem, e = poly.DivMod(withNoughts(p, 600), withNoughts(q, 600))
			divided(t, p, q, quo, rem, e)
		}
	}
}

func TestQuotientsOfProducts(t *testing.T) {
	for _, p := range operands() {
		for _, q := range operands() {
			if len(q) == 0 {
				continue
			}
			rest := list(len(q)-1, len(p))
			quo, rem, e := poly.DivMod(slowAdd(slowMul(p, q), rest), q)
			if e != api.OK || !bytes.Equal(quo, p) || !bytes.Equal(rem, rest) {
				t.Fatalf("DivMod of %d times %d and %d = %d, %d, %v", p, q, rest, quo, rem, e)
			}
		}
	}
}

func TestQuotientsOfExamples(t *testing.T) {
	for _, c := range []struct{ p, q, quo, rem []byte }{
		{[]byte{1, 0, 1}, []byte{1, 1}, []byte{1, 1}, nil},
		{[]byte{5}, []byte{0, 1}, nil, []byte{5}},
		{nil, []byte{3, 4}, nil, nil},
		{[]byte{0, 0}, []byte{3}, nil, nil},
		{[]byte{29, 0, 2}, []byte{2}, []byte{128, 0, 1}, nil},
		{[]byte{7, 0, 0, 0, 1}, []byte{0, 0, 1}, []byte{0, 0, 1}, []byte{7}},
	} {
		quo, rem, e := poly.DivMod(c.p, c.q)
		if e != api.OK || !bytes.Equal(quo, c.quo) || !bytes.Equal(rem, c.rem) {
			t.Errorf("DivMod(%d, %d) = %d, %d, %v", c.p, c.q, quo, rem, e)
		}
	}
}

func TestDivisionByZero(t *testing.T) {
	for _, zero := range zeros() {
		for _, p := range append(append(operands(), atLimit()...), zeros()...) {
			if quo, rem, e := poly.DivMod(p, zero); e != api.ErrZero || len(quo) != 0 || len(rem) != 0 {
				t.Errorf("DivMod(%d, %d) = %d, %d, %v", p, zero, quo, rem, e)
			}
		}
	}
}

// P2.2, P2.5: too long is looked at ahead of all else, a division by 0 too.
func TestPolynomialsThatAreTooLong(t *testing.T) {
	others := append(append(operands(), atLimit()...), zeros()...)
	others = append(others, tooLong()...)
	for _, long := range tooLong() {
		for _, other := range others {
			for _, pair := range [][2][]byte{{long, other}, {other, long}} {
				p, q := pair[0], pair[1]
				if got, e := poly.Add(p, q); e != api.ErrLimit || len(got) != 0 {
					t.Errorf("Add of %d and %d has %d, %v", len(p), len(q), len(got), e)
				}
				if got, e := poly.Mul(p, q); e != api.ErrLimit || len(got) != 0 {
					t.Errorf("Mul of %d and %d has %d, %v", len(p), len(q), len(got), e)
				}
				if quo, rem, e := poly.DivMod(p, q); e != api.ErrLimit || len(quo) != 0 || len(rem) != 0 {
					t.Errorf("DivMod of %d and %d has %d, %d, %v", len(p), len(q), len(quo), len(rem), e)
				}
				if got, e := poly.GCD(p, q); e != api.ErrLimit || len(got) != 0 {
					t.Errorf("GCD of %d and %d has %d, %v", len(p), len(q), len(got), e)
				}
			}
		}
	}
}

func TestPolynomialsAtTheLimit(t *testing.T) {
	for _, p := range atLimit() {
		if got, e := poly.Add(p, nil); e != api.OK || !bytes.Equal(got, slowTrim(p)) {
			t.Errorf("Add of %d and 0 has %d, %v", len(p), len(got), e)
		}
		if got, e := poly.Mul(p, []byte{1, 0}); e != api.OK || !bytes.Equal(got, slowTrim(p)) {
			t.Errorf("Mul of %d and 1 has %d, %v", len(p), len(got), e)
		}
		if got, e := poly.GCD(p, power(1, 0)); e != api.OK || !bytes.Equal(got, []byte{1}) {
			t.Errorf("GCD of %d and 1 = %d, %v", len(p), got, e)
		}
	}
}

// P2.5
func TestGCDOfExamples(t *testing.T) {
	for _, c := range []struct{ p, q, want []byte }{
		{[]byte{2, 3, 1}, []byte{1, 1}, []byte{1, 1}},
		{nil, []byte{4, 2}, []byte{2, 1}},
		{[]byte{4, 2, 0}, []byte{0, 0}, []byte{2, 1}},
		{[]byte{5}, nil, []byte{1}},
		{[]byte{5}, []byte{9}, []byte{1}},
		{[]byte{2, 3, 1}, []byte{5}, []byte{1}},
		{[]byte{5}, []byte{2, 3, 1}, []byte{1}},
		{[]byte{0, 0, 6}, []byte{0, 0, 0, 8, 1}, []byte{0, 0, 1}},
	} {
		if got, e := poly.GCD(c.p, c.q); e != api.OK || !bytes.Equal(got, c.want) {
			t.Errorf("GCD(%d, %d) = %d, %v", c.p, c.q, got, e)
		}
	}
	for _, p := range zeros() {
		for _, q := range zeros() {
			if got, e := poly.GCD(p, q); e != api.OK || len(got) != 0 {
				t.Errorf("GCD(%d, %d) = %d, %v", p, q, got, e)
			}
		}
	}
}

// Polynomials made of known factors have just the common ones in common: beside
// those, p and q of a case have no root alike.
func TestGCDOfFactors(t *testing.T) {
	// This one has no root and, being of the degree 2, no other factor.
	prime := []byte{32, 1, 1}
	for _, x := range elements() {
		if slowEval(prime, x) == 0 {
			t.Fatalf("%d is 0 at %d", prime, x)
		}
	}
	for _, c := range []struct{ common, p, q []byte }{
		{[]byte{1}, []byte{1, 2, 3}, []byte{4, 5, 6, 7}},
		{[]byte{1, 2, 2, 0}, []byte{1, 1, 1, 9}, []byte{2, 2, 0, 10}},
		{nil, []byte{1, 1}, []byte{2}},
		{elements(), []byte{0, 0}, []byte{1, 1, 1}},
		{elements()[100:], elements()[:50], elements()[50:99]},
	} {
		for _, also := range [][]byte{{1}, prime, slowMul(prime, prime)} {
			common := slowMul(slowFromRoots(c.common), also)
			p := slowMul(slowMul(common, slowFromRoots(c.p)), []byte{77})
			q := slowMul(slowMul(common, slowFromRoots(c.q)), []byte{13})
			for _, noughts := range []int{0, 600} {
				if got, e := poly.GCD(withNoughts(p, noughts), q); e != api.OK || !bytes.Equal(got, common) {
					t.Errorf("GCD(%d, %d) = %d, %v, want %d", p, q, got, e, common)
				}
				if got, e := poly.GCD(q, withNoughts(p, noughts)); e != api.OK || !bytes.Equal(got, common) {
					t.Errorf("GCD(%d, %d) = %d, %v, want %d", q, p, got, e, common)
				}
			}
		}
	}
}

// The greatest common divisor of a polynomial and itself, or a multiple, is
// that polynomial but for its highest coefficient.
func TestGCDOfMultiples(t *testing.T) {
	for _, p := range operands() {
		if len(p) == 0 {
			continue
		}
		for _, q := range operands() {
			got, e := poly.GCD(slowMul(p, q), p)
			if e != api.OK || len(got) != len(p) || got[len(got)-1] != 1 {
				t.Fatalf("GCD of %d times %d and itself = %d, %v", p, q, got, e)
			}
			if !bytes.Equal(slowMul(got, p[len(p)-1:]), p) {
				t.Fatalf("GCD of %d times %d and itself = %d", p, q, got)
			}
		}
	}
}
