package build_test

import (
	"bytes"
	"math"
	"testing"

	"recoup/api"
)

// behind fills the room behind the end of a list that is handed in.
const behind = 0xa5

// source tells numbers by a simple rule that differs from seed to seed.
type source struct {
	state uint32
}

func seeded(seed int) *source {
	return &source{uint32(seed)*2654435761 + 12345}
}

// below is a number from 0 to ahead of n.
func (s *source) below(n int) int {
	s.state = s.state*1664525 + 1013904223
	return int(s.state>>16) % n
}

func (s *source) element() byte {
	return byte(s.below(256))
}

func (s *source) notZero() byte {
	return byte(1 + s.below(255))
}

// roomy is a list with room behind its end.
func roomy(list []byte) []byte {
	room := bytes.Repeat([]byte{behind}, len(list)+8)
	copy(room, list)
	return room[:len(list)]
}

// list makes length elements, with room behind its end.
func list(length, seed int) []byte {
	from := seeded(seed)
	made := make([]byte, length)
	for i := range made {
		made[i] = from.element()
	}
	return roomy(made)
}

// filled is a matrix of such elements.
func filled(rows, cols, seed int) api.Matrix {
	return api.Matrix{Rows: rows, Cols: cols, Data: list(rows*cols, seed)}
}

// of is a matrix of so many columns by its entries.
func of(cols int, entries ...byte) api.Matrix {
	return api.Matrix{Rows: len(entries) / cols, Cols: cols, Data: entries}
}

// slow makes a matrix by its entries, one by one.
func slow(rows, cols int, at func(i, j int) byte) api.Matrix {
	made := make([]byte, 0, rows*cols)
	for i := range rows {
		for j := range cols {
			made = append(made, at(i, j))
		}
	}
	return api.Matrix{Rows: rows, Cols: cols, Data: roomy(made)}
}

func noughts(rows, cols int) api.Matrix {
	return slow(rows, cols, func(_, _ int) byte { return 0 })
}

func identity(n int) api.Matrix {
	return slow(n, n, func(i, j int) byte {
		if i == j {
			return 1
		}
		return 0
	})
}

// entry is m's (i, j), as the document counts them.
func entry(m api.Matrix, i, j int) byte {
	return m.Data[i*m.Cols+j]
}

func row(m api.Matrix, i int) []byte {
	return m.Data[i*m.Cols : (i+1)*m.Cols]
}

func copied(m api.Matrix) api.Matrix {
	return api.Matrix{Rows: m.Rows, Cols: m.Cols, Data: roomy(m.Data)}
}

func turned(m api.Matrix) api.Matrix {
	return slow(m.Cols, m.Rows, func(i, j int) byte { return entry(m, j, i) })
}

// slowTimes multiplies two elements as numbers of 16 bits and takes the
// remainder by 0x11d from the top down.
func slowTimes(a, b byte) byte {
	wide := 0
	for i := range 8 {
		if b>>i&1 == 1 {
			wide ^= int(a) << i
		}
	}
	for bit := 15; bit >= 8; bit-- {
		if wide>>bit&1 == 1 {
			wide ^= 0x11d << (bit - 8)
		}
	}
	return byte(wide)
}

// products keeps all products, each at [a][b]: the tests ask for many.
var products = func() (all [256][256]byte) {
	for a := range all {
		for b := range all[a] {
			all[a][b] = slowTimes(byte(a), byte(b))
		}
	}
	return all
}()

func slowMul(a, b api.Matrix) api.Matrix {
	return slow(a.Rows, b.Cols, func(i, j int) byte {
		var sum byte
		for k := range a.Cols {
			sum ^= products[entry(a, i, k)][entry(b, k, j)]
		}
		return sum
	})
}

// slowApply is what m sends x to.
func slowApply(m api.Matrix, x []byte) []byte {
	return slowMul(m, api.Matrix{Rows: len(x), Cols: 1, Data: x}).Data
}

// slowCombination is the sum of m's rows, so many times each.
func slowCombination(factors []byte, m api.Matrix) []byte {
	return slowMul(api.Matrix{Rows: 1, Cols: len(factors), Data: factors}, m).Data
}

func slowSum(a, b []byte) []byte {
	sum := bytes.Clone(a)
	for i := range sum {
		sum[i] ^= b[i]
	}
	return sum
}

// sides are those of the tests' matrices: none, few, just as many as may be.
func sides() []int {
	return []int{0, 1, 2, 3, 5, 8, 63, api.MaxSide}
}

// wrong are matrices that are not right: by a side, by both, by Data.
func wrong() []api.Matrix {
	matrices := []api.Matrix{
		{Rows: -1, Cols: -4, Data: list(4, 1)},
		{Rows: -2, Cols: -2, Data: list(4, 1)},
		{Rows: 65, Cols: 65, Data: list(65*65, 1)},
		{Rows: 65, Cols: 65, Data: make([]byte, 65*65)},
		{Rows: 65, Cols: 1, Data: list(65, 1)},
		{Rows: 1, Cols: 65, Data: list(65, 1)},
		// Sides whose product comes round to 0, or to 1.
		{Rows: math.MinInt, Cols: 2},
		{Rows: 2, Cols: math.MinInt},
		{Rows: 1 << 32, Cols: 1 << 32},
		{Rows: math.MaxInt, Cols: math.MaxInt, Data: list(1, 1)},
	}
	for _, n := range []int{-1, -64, math.MinInt, 65, 4096, math.MaxInt32, math.MaxInt} {
		matrices = append(matrices, api.Matrix{Rows: n}, api.Matrix{Cols: n}, api.Matrix{Rows: n, Cols: n})
	}
	for _, side := range sides() {
		matrices = append(matrices,
			api.Matrix{Rows: side, Cols: side, Data: list(side*side+1, 1)},
			api.Matrix{Rows: side, Cols: side, Data: make([]byte, side*side+1)},
			api.Matrix{Rows: 0, Cols: side, Data: list(side+1, 1)},
			api.Matrix{Rows: side, Cols: 0, Data: list(side+1, 1)})
		if side > 0 {
			matrices = append(matrices,
				api.Matrix{Rows: side, Cols: side, Data: list(side*side-1, 1)},
				api.Matrix{Rows: side, Cols: 1})
		}
	}
	return matrices
}

// alike does not ask the project's packages.
func alike(a, b api.Matrix) bool {
	return a.Rows == b.Rows && a.Cols == b.Cols && bytes.Equal(a.Data, b.Data)
}

// is tells where a call did not answer this matrix without an error.
func is(t *testing.T, what string, got api.Matrix, e api.Errno, want api.Matrix) {
	t.Helper()
	if e != api.OK || !alike(got, want) {
		t.Errorf("%s = %v, %v, want %v", what, got, e, want)
	}
}

// fails tells where a call did not answer this error and nothing beside it.
func fails(t *testing.T, what string, got api.Matrix, e, want api.Errno) {
	t.Helper()
	if e != want || !alike(got, api.Matrix{}) {
		t.Errorf("%s = %v, %v, want %v", what, got, e, want)
	}
}

// held is a list as it was handed in, to be looked at again later.
type held struct {
	handed, before []byte
}

func hold(handed []byte) held {
	return held{handed, bytes.Clone(handed[:cap(handed)])}
}

func (h held) same() bool {
	return bytes.Equal(h.handed[:cap(h.handed)], h.before)
}

// spoil turns all bits of a list, and of the room behind its end.
func spoil(a []byte) {
	room := a[:cap(a)]
	for i := range room {
		room[i] ^= 0xff
	}
}
