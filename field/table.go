package field

// reduction is x^8 + x^4 + x^3 + x^2 + 1 without x^8, which a byte's shift
// drops by itself.
const reduction = 0x1d

// double is the product with 2.
func double(a byte) byte {
	if a < 128 {
		return a << 1
	}
	return a<<1 ^ reduction
}

// powersOfTwo has at the place n the power of 2 with the exponent n.
func powersOfTwo() [order]byte {
	var powers [order]byte
	power := byte(1)
	for n := range powers {
		powers[n] = power
		power = double(power)
	}
	return powers
}

// exponentsOfTwo has at the place of each power its exponent. The place 0
// stands for nothing: 0 is no power of 2.
func exponentsOfTwo(powers [order]byte) [256]byte {
	var exponents [256]byte
	for n, power := range powers {
		exponents[power] = byte(n)
	}
	return exponents
}

// powerWithin is the power of an element a that is not 0. Both exponents are
// brought into their bounds ahead of the product, so that it stays far from
// what an int can't hold.
func powerWithin(powers [order]byte, exponents [256]byte, a byte, n int) byte {
	return powers[inBounds(int(exponents[a])*inBounds(n))]
}

// inBounds is the exponent from 0 to 254 whose power is that of n. The sign
// of a remainder is that of n, therefore it is mended behind the division:
// -n would leave what an int holds at its least number.
func inBounds(n int) int {
	n %= order
	if n < 0 {
		n += order
	}
	return n
}

// multiples has at the place n the product of c and n, of n from 0 to 15. Two
// such tables, of c and of 16 times c, tell the product with any element by
// its two halves; for a list they are sooner made than tables of powers.
func multiples(c byte) [16]byte {
	var products [16]byte
	for n := range products {
		products[n] = double(products[n/2])
		if n%2 == 1 {
			products[n] ^= c
		}
	}
	return products
}
