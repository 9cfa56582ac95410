package local_test

import (
	"math"
	"testing"

	"recoup/api"
	"recoup/local"
)

// fails tells where a call of a matrix and a block did not answer this error
// and nothing beside it.
func fails(t *testing.T, g api.Matrix, b int, want api.Errno) {
	t.Helper()
	leastIsNothing(t, "a wrong call", g, b, want)
	for _, most := range []int{0, 1, math.MaxInt} {
		choicesAre(t, "a wrong call", g, b, most, nil, want)
	}
}

// notRight are matrices that are not right: by a side, by both, by Data.
func notRight() []api.Matrix {
	matrices := []api.Matrix{
		{Rows: -1, Cols: -4, Data: make([]byte, 4)},
		{Rows: -2, Cols: -2, Data: []byte{1, 0, 0, 1}},
		{Rows: 65, Cols: 65, Data: identity(65).Data},
		{Rows: 65, Cols: 64, Data: make([]byte, 65*64)},
		{Rows: 65, Cols: 1, Data: seeded(1).list(65)},
		{Rows: 1, Cols: 65, Data: seeded(1).list(65)},
		// Sides whose product comes round to 0, or to 1.
		{Rows: math.MinInt, Cols: 2},
		{Rows: 2, Cols: math.MinInt},
		{Rows: 1 << 32, Cols: 1 << 32},
		{Rows: math.MaxInt, Cols: math.MaxInt, Data: []byte{1}},
	}
	ends := []int{-1, -64, math.MinInt, math.MinInt + 1, math.MinInt32, 65, 4096, math.MaxInt32, math.MaxInt - 1, math.MaxInt}
	for _, n := range ends {
		matrices = append(matrices, api.Matrix{Rows: n}, api.Matrix{Cols: n})
		for _, other := range append(ends, 0, 1, 2, 64) {
			matrices = append(matrices,
				api.Matrix{Rows: n, Cols: other, Data: []byte{1}},
				api.Matrix{Rows: other, Cols: n, Data: []byte{1, 2}})
		}
	}
	for _, side := range []int{1, 2, 3, 8, 63, 64} {
		full := identity(side).Data
		matrices = append(matrices,
			api.Matrix{Rows: side, Cols: side, Data: append(full, 1)},
			api.Matrix{Rows: side, Cols: side, Data: full[:len(full)-1]},
			api.Matrix{Rows: side, Cols: side},
			api.Matrix{Rows: side, Cols: 1, Data: seeded(side).list(side + 1)})
	}
	return matrices
}

// noGenerators are right, but without columns, or with too few rows.
func noGenerators() []api.Matrix {
	var matrices []api.Matrix
	for _, rows := range []int{0, 1, 2, 63, 64} {
		matrices = append(matrices, noughts(rows, 0))
	}
	for _, sides := range [][2]int{{0, 1}, {0, 64}, {1, 2}, {1, 64}, {4, 5}, {62, 63}, {63, 64}} {
		matrices = append(matrices,
			noughts(sides[0], sides[1]),
			filled(sides[0], sides[1], 1),
			slow(sides[0], sides[1], func(i, j int) byte { return oneIf(i == j) }))
	}
	return matrices
}

// ErrShape is told whatever else is wrong.
func TestWhatIsNoGenerator(t *testing.T) {
	for _, g := range append(notRight(), noGenerators()...) {
		for _, b := range []int{0, 1, g.Rows - 1, g.Rows, -1, 63, 64, math.MinInt, math.MaxInt} {
			fails(t, g, b, api.ErrShape)
			choicesAre(t, "a wrong call", g, b, -1, nil, api.ErrShape)
		}
		sizesAre(t, "a wrong call", g, nil, api.ErrShape)
	}
}

// ErrArg is told of each number that is no row, also where other blocks are
// beyond the limit.
func TestBlocksThatAreNoRows(t *testing.T) {
	for _, k := range append(small(), great()...) {
		for _, b := range []int{-1, -2, -63, -64, math.MinInt, k.g.Rows, k.g.Rows + 1, 64, 65, 127, 128, math.MaxInt} {
			fails(t, k.g, b, api.ErrArg)
			choicesAre(t, "a wrong call", k.g, b, -1, nil, api.ErrArg)
		}
	}
}

// Of MaxSide rows each number is one.
func TestEachNumberOfMaxSideRowsIsOne(t *testing.T) {
	g := slow(64, 1, func(i, _ int) byte { return byte(i + 1) })
	for b := range 64 {
		leastIs(t, "one column", g, b, []int{int(oneIf(b == 0))})
	}
}

// anySide is one that may be, or an int of any size.
func anySide(from *source) int {
	ends := []int{math.MinInt, -1, 65, 128, math.MaxInt}
	if from.below(12) == 0 {
		return ends[from.below(len(ends))]
	}
	return from.below(8)
}

// anyOf is a list of elements many of which are 0 or 1, so that rows hang
// together.
func anyOf(from *source, size int) []byte {
	list := from.list(size)
	for i := range list {
		if from.below(3) > 0 {
			list[i] %= 2
		}
	}
	return list
}

// Anything at all is answered as the document says.
func TestAnythingAtAll(t *testing.T) {
	found := map[api.Errno]int{}
	for seed := range 15000 {
		from := seeded(seed)
		g := api.Matrix{Rows: anySide(from), Cols: anySide(from)}
		size := from.below(20)
		if from.below(8) > 0 && max(g.Rows, g.Cols) <= 65 && min(g.Rows, g.Cols) >= 0 {
			size = g.Rows * g.Cols
		}
		g.Data = anyOf(from, size)
		b, most := anySide(from), anySide(from)-1
		right := g.Rows >= 0 && g.Rows <= 64 && g.Cols >= 1 && g.Cols <= g.Rows && len(g.Data) == g.Rows*g.Cols
		switch {
		case !right:
			found[api.ErrShape]++
			fails(t, g, b, api.ErrShape)
		case b < 0 || b >= g.Rows:
			found[api.ErrArg]++
			fails(t, g, b, api.ErrArg)
		default:
			found[api.OK]++
			asTheDocumentSays(t, g, b, most)
		}
	}
	for _, e := range []api.Errno{api.OK, api.ErrShape, api.ErrArg} {
		if found[e] < 1000 {
			t.Errorf("%v is asked for %d times", e, found[e])
		}
	}
}

// asTheDocumentSays holds what is told of a generator's block against the
// models.
func asTheDocumentSays(t *testing.T, g api.Matrix, b, most int) {
	t.Helper()
	var all []api.Set
	size := -1
	if want, ok, e := slowLeast(g, b); ok {
		leastIs(t, "anything", g, b, want)
		all, size = setsOf(slowChoices(g, b, len(want))), len(want)
	} else {
		leastIsNothing(t, "anything", g, b, e)
	}
	if most < 0 {
		choicesAre(t, "anything", g, b, most, nil, api.ErrArg)
	} else {
		choicesAre(t, "anything", g, b, most, first(all, most), api.OK)
	}
	if sizes, e := local.Sizes(g); e != api.OK || len(sizes) != g.Rows || sizes[b] != size {
		t.Errorf("Sizes = %v, %v, want %d at %d", sizes, e, size, b)
	}
}
