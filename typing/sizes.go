package typing

import (
	"recoup/api"
	"recoup/subset"
)

// size makes a code of the fields that its kind names, and tells its N and K;
// what its kind does not name is zero in what it makes. The codes ahead have
// their sizes already.
type size func(c api.CoreCode, ahead []api.CoreCode) (api.CoreCode, api.Errno)

func sizes() map[api.ShapeKind]size {
	return map[api.ShapeKind]size{
		api.SReed:    sizeOfTwo,
		api.SCross:   sizeOfTwo,
		api.SLocal:   sizeOfThree,
		api.SPyramid: sizeOfThree,
		api.SProduct: sizeOfProduct,
		api.SJoin:    sizeOfJoin,
		api.SMatrix:  sizeOfMatrix,
	}
}

// sized is what its kind makes of c: ErrType, if it is not as the kind asks;
// ErrLimit, if it has too many blocks.
func sized(kinds map[api.ShapeKind]size, c api.CoreCode, ahead []api.CoreCode) (api.CoreCode, api.Errno) {
	sizeOf, known := kinds[c.Kind]
	if !known {
		return api.CoreCode{}, api.ErrType
	}
	made, e := sizeOf(c, ahead)
	if e == api.OK && made.N > api.MaxSide {
		e = api.ErrLimit
	}
	if e != api.OK {
		return api.CoreCode{}, e
	}
	return made, api.OK
}

func sizeOfTwo(c api.CoreCode, _ []api.CoreCode) (api.CoreCode, api.Errno) {
	if c.A < 1 || c.B < 0 {
		return api.CoreCode{}, api.ErrType
	}
	return api.CoreCode{Kind: c.Kind, A: c.A, B: c.B, N: together(c.A, c.B), K: c.A}, api.OK
}

func sizeOfThree(c api.CoreCode, _ []api.CoreCode) (api.CoreCode, api.Errno) {
	if c.A < 1 || c.B < 1 || c.A%c.B != 0 || c.C < 0 {
		return api.CoreCode{}, api.ErrType
	}
	return api.CoreCode{Kind: c.Kind, A: c.A, B: c.B, C: c.C, N: together(c.A, c.B, c.C), K: c.A}, api.OK
}

func sizeOfProduct(c api.CoreCode, ahead []api.CoreCode) (api.CoreCode, api.Errno) {
	a, b, e := parts(c, ahead)
	return api.CoreCode{Kind: c.Kind, A: c.A, B: c.B, N: a.N * b.N, K: a.K * b.K}, e
}

func sizeOfJoin(c api.CoreCode, ahead []api.CoreCode) (api.CoreCode, api.Errno) {
	a, b, e := parts(c, ahead)
	return api.CoreCode{Kind: c.Kind, A: c.A, B: c.B, N: a.N + b.N, K: a.K + b.K}, e
}

// parts are the two codes of which c is made.
func parts(c api.CoreCode, ahead []api.CoreCode) (a, b api.CoreCode, e api.Errno) {
	if !isPlace(c.A, ahead) || !isPlace(c.B, ahead) {
		return api.CoreCode{}, api.CoreCode{}, api.ErrType
	}
	return ahead[c.A], ahead[c.B], api.OK
}

func sizeOfMatrix(c api.CoreCode, _ []api.CoreCode) (api.CoreCode, api.Errno) {
	g := c.G
	if !within(1, api.MaxSide, g.Rows) || !within(1, g.Rows, g.Cols) || len(g.Data) != g.Rows*g.Cols {
		return api.CoreCode{}, api.ErrType
	}
	return api.CoreCode{Kind: c.Kind, G: g, N: g.Rows, K: g.Cols}, api.OK
}

// together is the sum of counts of 0 or more; one more than MaxSide stands for
// all that are greater, for which an int may be too small.
func together(counts ...int) int {
	sum := 0
	for _, n := range counts {
		sum += min(n, api.MaxSide+1-sum)
	}
	return sum
}

// isPlace asks whether a list has a code at that place.
func isPlace(place int, l []api.CoreCode) bool {
	return place >= 0 && place < len(l)
}

// within asks whether all numbers are from least to most.
func within(least, most int, numbers ...int) bool {
	for _, n := range numbers {
		if n < least || n > most {
			return false
		}
	}
	return true
}

// borne is OK, if so many of the blocks may be tolerated.
func borne(blocks, tolerate int) api.Errno {
	if !within(0, blocks, tolerate) {
		return api.ErrType
	}
	if sets, e := subset.Upto(blocks, tolerate); e != api.OK || sets > api.MaxPatterns {
		return api.ErrLimit
	}
	return api.OK
}
