package poly

import (
	"recoup/api"
	"recoup/field"
)

// Add is the sum.
func Add(p, q []byte) ([]byte, api.Errno) {
	longer, shorter := trimmed(p), trimmed(q)
	if tooLong(longer, shorter) {
		return nil, api.ErrLimit
	}
	if len(longer) < len(shorter) {
		longer, shorter = shorter, longer
	}
	sum := Trim(longer)
	addMultiple(sum[:len(shorter)], 1, shorter)
	return trimmed(sum), api.OK
}

// Mul is the product.
func Mul(p, q []byte) ([]byte, api.Errno) {
	p, q = trimmed(p), trimmed(q)
	if tooLong(p, q) {
		return nil, api.ErrLimit
	}
	if len(p) == 0 || len(q) == 0 {
		return nil, api.OK
	}
	size := len(p) + len(q) - 1
	if size > api.MaxPoly {
		return nil, api.ErrLimit
	}
	product := make([]byte, size)
	for i, c := range p {
		addMultiple(product[i:i+len(q)], c, q)
	}
	return product, api.OK
}

// DivMod is the quotient of p by q, and the remainder.
func DivMod(p, q []byte) (quo, rem []byte, e api.Errno) {
	p, q = trimmed(p), trimmed(q)
	if tooLong(p, q) {
		return nil, nil, api.ErrLimit
	}
	if len(q) == 0 {
		return nil, nil, api.ErrZero
	}
	rem = Trim(p)
	if len(p) >= len(q) {
		quo = make([]byte, len(p)-len(q)+1)
	}
	step := stepBy(q)
	for len(rem) >= len(q) {
		place := len(rem) - len(q)
		quo[place], rem = step(rem)
	}
	return quo, rem, api.OK
}

// GCD is the polynomial of the greatest degree that divides both p and q, with
// the highest coefficient 1.
func GCD(p, q []byte) ([]byte, api.Errno) {
	p, q = trimmed(p), trimmed(q)
	if tooLong(p, q) {
		return nil, api.ErrLimit
	}
	rest, divisor := Trim(p), Trim(q)
remainders:
	for len(divisor) > 0 {
		step := stepBy(divisor)
		for {
			if len(rest) < len(divisor) {
				rest, divisor = divisor, rest
				continue remainders
			}
			_, rest = step(rest)
		}
	}
	return monic(rest), api.OK
}

// stepBy is the step of a division by q, which is trimmed and not 0. The step
// takes that multiple of q off rest which leaves a lower degree, and tells the
// multiple's coefficient and what is left; rest is trimmed, not shorter than q,
// and the package's own: it is written over. The inverse is kept with the step,
// as all steps by one divisor need the same.
func stepBy(q []byte) func(rest []byte) (byte, []byte) {
	inverse, _ := field.Inv(q[len(q)-1])
	return func(rest []byte) (byte, []byte) {
		factor := field.Mul(rest[len(rest)-1], inverse)
		addMultiple(rest[len(rest)-len(q):], factor, q)
		return factor, trimmed(rest)
	}
}

// monic is the multiple of p, which is trimmed, with the highest coefficient 1;
// 0 has none, and stays 0.
func monic(p []byte) []byte {
	if len(p) == 0 {
		return nil
	}
	inverse, _ := field.Inv(p[len(p)-1])
	return field.Scale(inverse, p)
}
