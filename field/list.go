package field

import "recoup/api"

// Sum is the list of the sums, place by place.
func Sum(a, b []byte) ([]byte, api.Errno) {
	if len(a) != len(b) {
		return nil, api.ErrShape
	}
	sums := copyOf(a)
	for i, element := range b {
		sums[i] ^= element
	}
	return sums, api.OK
}

// Scale is the list of the products of c and each element of a.
func Scale(c byte, a []byte) []byte {
	products := make([]byte, len(a))
	addProducts(products, c, a)
	return products
}

// Mac is the list of the sums of dst's elements and c times those of src.
func Mac(dst []byte, c byte, src []byte) ([]byte, api.Errno) {
	if len(dst) != len(src) {
		return nil, api.ErrShape
	}
	sums := copyOf(dst)
	addProducts(sums, c, src)
	return sums, api.OK
}

// Dot is the sum of the products, place by place.
func Dot(a, b []byte) (byte, api.Errno) {
	if len(a) != len(b) {
		return 0, api.ErrShape
	}
	var sum byte
	for i, element := range a {
		sum ^= Mul(element, b[i])
	}
	return sum, api.OK
}

// copyOf has exactly the room that its elements need.
func copyOf(a []byte) []byte {
	made := make([]byte, len(a))
	copy(made, a)
	return made
}

// addProducts puts c times the elements of src to those of sums, which this
// package made itself and nobody else has.
func addProducts(sums []byte, c byte, src []byte) {
	low, high := multiples(c), multiples(Mul(c, 16))
	for i, element := range src {
		sums[i] ^= low[element&15] ^ high[element>>4]
	}
}
