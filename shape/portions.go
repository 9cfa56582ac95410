package shape

import (
	"bytes"

	"recoup/api"
	"recoup/build"
	"recoup/matrix"
	"recoup/subset"
)

// Local is the code of k data blocks in l portions, with a block for each
// portion, the sum of its data blocks, and m blocks of all.
func Local(k, l, m int) (api.Code, api.Errno) {
	if e := portionsFail(k, l, m); e != api.OK {
		return api.Code{}, e
	}
	cross, _ := build.Cross(k, m)
	return portioned(l, bytes.Repeat([]byte{1}, k), last(cross, m)), api.OK
}

// Pyramid is such a code whose blocks for the portions are, put together, one
// block more of all.
func Pyramid(k, l, m int) (api.Code, api.Errno) {
	if e := portionsFail(k, l, m); e != api.OK {
		return api.Code{}, e
	}
	// There is a portion at least: so this one has no more blocks than may be.
	cross, _ := build.Cross(k, m+1)
	first, _ := matrix.Row(cross, k)
	return portioned(l, first, last(cross, m)), api.OK
}

// portionsFail is what fails of these numbers, or OK.
func portionsFail(k, l, m int) api.Errno {
	switch {
	case k < 1 || l < 1 || k%l != 0 || m < 0:
		return api.ErrArg
	case tooMany(k, l, m):
		return api.ErrLimit
	}
	return api.OK
}

// portioned is the code of the data blocks, one for each of the entries of
// whole; of a block for each of l portions, whose row is whole where the
// portion is; and of further rows. The groups are the portions, each with its
// block.
func portioned(l int, whole []byte, further rows) api.Code {
	k := len(whole)
	size := k / l
	identity, _ := matrix.Identity(k)
	g := noughts(k+l+further.Rows, k)
	g.lay(rows{identity}, 0, 0)
	g.lay(further, k+l, 0)
	groups := make([]api.Set, l)
	for portion := range l {
		from := portion * size
		copy(g.row(k + portion)[from:], whole[from:from+size])
		members, _ := subset.Full(size + 1)
		groups[portion] = moved(members, func(i int) int {
			if i == size {
				return k + portion
			}
			return from + i
		})
	}
	return api.Code{G: g.Matrix, Groups: groups}
}

// last are the last rows of m, so many of them.
func last(m api.Matrix, count int) rows {
	top := m.Rows - count
	made := noughts(count, m.Cols)
	for i := range count {
		copy(made.row(i), rows{m}.row(top+i))
	}
	return made
}
