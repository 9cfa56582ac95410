package matrix_test

import (
	"bytes"
	"math"
	"testing"

	"recoup/api"
)

// behind fills the room behind the end of a list that is handed in.
const behind = 0xa5

// list makes length elements by a simple rule that differs from seed to seed,
// with room behind its end.
func list(length, seed int) []byte {
	room := bytes.Repeat([]byte{behind}, length+8)
	state := uint32(seed)*2654435761 + 12345
	for i := range length {
		state = state*1664525 + 1013904223
		room[i] = byte(state >> 24)
	}
	return room[:length]
}

// filled is a matrix of such elements.
func filled(rows, cols, seed int) api.Matrix {
	return api.Matrix{Rows: rows, Cols: cols, Data: list(rows*cols, seed)}
}

// of is a matrix of so many columns by its entries.
func of(cols int, entries ...byte) api.Matrix {
	return api.Matrix{Rows: len(entries) / cols, Cols: cols, Data: entries}
}

// sides are those of the tests' matrices: none, few, just as many as may be.
func sides() []int {
	return []int{0, 1, 2, 3, 7, 63, api.MaxSide}
}

// all are the matrices of all pairs of sides.
func all(seed int) []api.Matrix {
	var matrices []api.Matrix
	for _, rows := range sides() {
		for _, cols := range sides() {
			matrices = append(matrices, filled(rows, cols, seed))
		}
	}
	return matrices
}

// beyond are numbers that no side may be.
func beyond() []int {
	return []int{-1, -2, -64, math.MinInt, math.MinInt32, 65, 66, 128, 4096, math.MaxInt32, math.MaxInt}
}

// wrong are matrices that are not right: by a side, by both, by Data.
func wrong() []api.Matrix {
	matrices := []api.Matrix{
		{Rows: -1, Cols: -4, Data: list(4, 1)},
		{Rows: -2, Cols: -2, Data: list(4, 1)},
		{Rows: 65, Cols: 65, Data: list(65*65, 1)},
		{Rows: 65, Cols: 1, Data: list(65, 1)},
		{Rows: 1, Cols: 65, Data: list(65, 1)},
		// Sides whose product comes round to 0, or to 1.
		{Rows: math.MinInt, Cols: 2},
		{Rows: 1 << 32, Cols: 1 << 32},
		{Rows: math.MaxInt, Cols: math.MaxInt, Data: list(1, 1)},
	}
	for _, n := range beyond() {
		matrices = append(matrices, api.Matrix{Rows: n}, api.Matrix{Cols: n})
	}
	for _, side := range sides() {
		matrices = append(matrices,
			api.Matrix{Rows: side, Cols: side, Data: list(side*side+1, 1)},
			api.Matrix{Rows: 0, Cols: side, Data: list(side+1, 1)},
			api.Matrix{Rows: side, Cols: 0, Data: list(side+1, 1)})
		if side > 0 {
			matrices = append(matrices,
				api.Matrix{Rows: side, Cols: side, Data: list(side*side-1, 1)},
				api.Matrix{Rows: side, Cols: 1})
		}
	}
	return matrices
}

// entry is m's (i, j), as the document counts them.
func entry(m api.Matrix, i, j int) byte {
	return m.Data[i*m.Cols+j]
}

// slow makes a matrix by its entries, one by one.
func slow(rows, cols int, at func(i, j int) byte) api.Matrix {
	made := api.Matrix{Rows: rows, Cols: cols}
	for i := range rows {
		for j := range cols {
			made.Data = append(made.Data, at(i, j))
		}
	}
	return made
}

// slowTimes multiplies two elements as numbers of 16 bits and takes the
// remainder by 0x11d from the top down.
func slowTimes(a, b byte) byte {
	wide := 0
	for i := range 8 {
		if b>>i&1 == 1 {
			wide ^= int(a) << i
		}
	}
	for bit := 15; bit >= 8; bit-- {
		if wide>>bit&1 == 1 {
			wide ^= 0x11d << (bit - 8)
		}
	}
	return byte(wide)
}

func slowMul(a, b api.Matrix) api.Matrix {
	return slow(a.Rows, b.Cols, func(i, j int) byte {
		var sum byte
		for k := range a.Cols {
			sum ^= slowTimes(entry(a, i, k), entry(b, k, j))
		}
		return sum
	})
}

// alike does not ask the package.
func alike(a, b api.Matrix) bool {
	return a.Rows == b.Rows && a.Cols == b.Cols && bytes.Equal(a.Data, b.Data)
}

// is tells where a call did not answer this matrix without an error.
func is(t *testing.T, what string, got api.Matrix, e api.Errno, want api.Matrix) {
	t.Helper()
	if e != api.OK || !alike(got, want) {
		t.Errorf("%s = %v, %v, want %v", what, got, e, want)
	}
}

// fails tells where a call did not answer this error and nothing beside it.
func fails(t *testing.T, what string, got api.Matrix, e, want api.Errno) {
	t.Helper()
	if e != want || !alike(got, api.Matrix{}) {
		t.Errorf("%s = %v, %v, want %v", what, got, e, want)
	}
}

// held is a list as it was handed in, to be looked at again later.
type held struct {
	handed, before []byte
}

func hold(handed []byte) held {
	return held{handed, bytes.Clone(handed[:cap(handed)])}
}

func (h held) same() bool {
	return bytes.Equal(h.handed[:cap(h.handed)], h.before)
}

// spoil turns all bits of a list, and of the room behind its end.
func spoil(a []byte) {
	room := a[:cap(a)]
	for i := range room {
		room[i] ^= 0xff
	}
}
