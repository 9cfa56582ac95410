package poly

import (
	"recoup/api"
	"recoup/field"
)

// elements is how many elements the field has.
const elements = 256

// Roots are the elements at which p is 0, rising; none, if p itself is 0.
func Roots(p []byte) []byte {
	p = trimmed(p)
	if len(p) == 0 {
		return nil
	}
	short := folded(p)
	var roots []byte
	for x := range elements {
		if Eval(short, byte(x)) == 0 {
			roots = append(roots, byte(x))
		}
	}
	return roots
}

// FromRoots is the product of the factors x and root, one for each root.
func FromRoots(roots ...byte) ([]byte, api.Errno) {
	if len(roots) > api.MaxPoly-1 {
		return nil, api.ErrLimit
	}
	product := []byte{1}
	for _, root := range roots {
		product = withRoot(product, root)
	}
	return product, api.OK
}

// Interpolate is the polynomial of the least degree through the points.
func Interpolate(xs, ys []byte) ([]byte, api.Errno) {
	if len(xs) != len(ys) {
		return nil, api.ErrShape
	}
	var through []byte // goes through the points so far
	nodes := []byte{1} // is 0 at just those points' xs
	for i, x := range xs {
		missing := field.Add(ys[i], Eval(through, x))
		factor, e := field.Div(missing, Eval(nodes, x))
		if e != api.OK {
			// The nodes are 0 at x only if it stood ahead in xs.
			return nil, api.ErrArg
		}
		through = append(through, 0)
		addMultiple(through, factor, nodes)
		nodes = withRoot(nodes, x)
	}
	return trimmed(through), api.OK
}

// folded is a list of at most as many coefficients as there are elements, with
// the values of p at each of them: x to the power 256 is x, whatever x. Without
// it each root asked for would cost the whole of a long list.
func folded(p []byte) []byte {
	if len(p) <= elements {
		return p
	}
	short := make([]byte, elements)
	copy(short, p)
	for i, c := range p[elements:] {
		short[1+i%(elements-1)] ^= c
	}
	return short
}

// withRoot is the product of p and the factor x and root.
func withRoot(p []byte, root byte) []byte {
	product := make([]byte, len(p)+1)
	copy(product[1:], p)
	addMultiple(product[:len(p)], root, p)
	return product
}
