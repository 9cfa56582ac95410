// Package field is layer 1: the field of 256 elements in which all codes
// reckon, and lists of its elements. See shared/doc/01-field.md.
package field

import "recoup/api"

// order is how many elements but 0 there are: the powers of 2 come round
// after that many.
const order = 255

// Add is the sum.
func Add(a, b byte) byte {
	return a ^ b
}

// Mul is the product.
func Mul(a, b byte) byte {
	var product byte
	for ; b != 0; b >>= 1 {
		if b&1 != 0 {
			product ^= a
		}
		a = double(a)
	}
	return product
}

// Div is the product of a and b's inverse.
func Div(a, b byte) (byte, api.Errno) {
	inverse, e := Inv(b)
	if e != api.OK {
		return 0, e
	}
	return Mul(a, inverse), api.OK
}

// Inv is the inverse.
func Inv(a byte) (byte, api.Errno) {
	return Pow(a, -1)
}

// Pow is the power of a with the exponent n.
func Pow(a byte, n int) (byte, api.Errno) {
	switch {
	case n == 0:
		return 1, api.OK
	case a == 0 && n < 0:
		return 0, api.ErrZero
	case a == 0:
		return 0, api.OK
	}
	powers := powersOfTwo()
	exponents := exponentsOfTwo(powers)
	return powerWithin(powers, exponents, a, n), api.OK
}

// Exp is the power of 2 with the exponent n.
func Exp(n int) byte {
	return powersOfTwo()[inBounds(n)]
}

// Log is the exponent with which the power of 2 is a.
func Log(a byte) (int, api.Errno) {
	if a == 0 {
		return 0, api.ErrZero
	}
	return int(exponentsOfTwo(powersOfTwo())[a]), api.OK
}
