package elab

import (
	"recoup/api"
	"recoup/shape"
)

// maker makes a code of what a core says of it, and of the codes ahead.
type maker func(c api.CoreCode, ahead []api.Code) (api.Code, api.Errno)

func makers() map[api.ShapeKind]maker {
	return map[api.ShapeKind]maker{
		api.SReed:    ofTwo(shape.Reed),
		api.SCross:   ofTwo(shape.Cross),
		api.SLocal:   ofThree(shape.Local),
		api.SPyramid: ofThree(shape.Pyramid),
		api.SProduct: ofCodes(shape.Product),
		api.SJoin:    ofCodes(shape.Join),
		api.SMatrix:  ofMatrix,
	}
}

// made are the codes of a core that may be, each of them made of those that
// the list has already.
func made(l []api.CoreCode) []api.Code {
	kinds := makers()
	var codes []api.Code
	for _, c := range l {
		// Of a core that may be no call has an error.
		code, _ := kinds[c.Kind](c, codes)
		codes = append(codes, code)
	}
	return codes
}

func ofTwo(call func(k, m int) (api.Code, api.Errno)) maker {
	return func(c api.CoreCode, _ []api.Code) (api.Code, api.Errno) {
		return call(c.A, c.B)
	}
}

func ofThree(call func(k, l, m int) (api.Code, api.Errno)) maker {
	return func(c api.CoreCode, _ []api.Code) (api.Code, api.Errno) {
		return call(c.A, c.B, c.C)
	}
}

func ofCodes(call func(a, b api.Code) (api.Code, api.Errno)) maker {
	return func(c api.CoreCode, ahead []api.Code) (api.Code, api.Errno) {
		return call(ahead[c.A], ahead[c.B])
	}
}

func ofMatrix(c api.CoreCode, _ []api.Code) (api.Code, api.Errno) {
	return shape.Explicit(c.G)
}
