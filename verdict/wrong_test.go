package verdict_test

import (
	"math"
	"testing"

	"recoup/api"
	"recoup/verdict"
)

// fails tells where a call did not answer this error and nothing beside it.
func fails(t *testing.T, g api.Matrix, lost api.Set, want api.Errno) {
	t.Helper()
	if ok, e := verdict.Recovers(g, lost); ok || e != want {
		t.Errorf("Recovers of %d x %d and %#x = %v, %v, want %v", g.Rows, g.Cols, lost, ok, e, want)
	}
	if s, ok, e := verdict.Sources(g, lost); s != 0 || ok || e != want {
		t.Errorf("Sources of %d x %d and %#x = %#x, %v, %v, want %v", g.Rows, g.Cols, lost, s, ok, e, want)
	}
	for name, call := range makers() {
		m, ok, e := call(g, lost)
		if m.Rows != 0 || m.Cols != 0 || len(m.Data) != 0 || ok || e != want {
			t.Errorf("%s of %d x %d and %#x = %v, %v, %v, want %v", name, g.Rows, g.Cols, lost, m, ok, e, want)
		}
	}
}

// makers are the calls that answer a matrix.
func makers() map[string]func(g api.Matrix, lost api.Set) (api.Matrix, bool, api.Errno) {
	return map[string]func(g api.Matrix, lost api.Set) (api.Matrix, bool, api.Errno){
		"Decode":  verdict.Decode,
		"Rebuild": verdict.Rebuild,
	}
}

// notRight are matrices that are not right: by a side, by both, by Data.
func notRight() []api.Matrix {
	matrices := []api.Matrix{
		{Rows: -1, Cols: -4, Data: make([]byte, 4)},
		{Rows: -2, Cols: -2, Data: []byte{1, 0, 0, 1}},
		{Rows: 65, Cols: 65, Data: identity(65).Data},
		{Rows: 65, Cols: 64, Data: make([]byte, 65*64)},
		{Rows: 65, Cols: 1, Data: seeded(1).list(65)},
		{Rows: 1, Cols: 65, Data: seeded(1).list(65)},
		// Sides whose product comes round to 0, or to 1.
		{Rows: math.MinInt, Cols: 2},
		{Rows: 2, Cols: math.MinInt},
		{Rows: 1 << 32, Cols: 1 << 32},
		{Rows: math.MaxInt, Cols: math.MaxInt, Data: []byte{1}},
	}
	ends := []int{-1, -64, math.MinInt, math.MinInt + 1, math.MinInt32, 65, 4096, math.MaxInt32, math.MaxInt - 1, math.MaxInt}
	for _, n := range ends {
		matrices = append(matrices, api.Matrix{Rows: n}, api.Matrix{Cols: n})
		for _, other := range append(ends, 0, 1, 2, 64) {
			matrices = append(matrices,
				api.Matrix{Rows: n, Cols: other, Data: []byte{1}},
				api.Matrix{Rows: other, Cols: n, Data: []byte{1, 2}})
		}
	}
	for _, side := range []int{1, 2, 3, 8, 63, 64} {
		full := identity(side).Data
		matrices = append(matrices,
			api.Matrix{Rows: side, Cols: side, Data: append(full, 1)},
			api.Matrix{Rows: side, Cols: side, Data: full[:len(full)-1]},
			api.Matrix{Rows: side, Cols: side},
			api.Matrix{Rows: side, Cols: 1, Data: seeded(side).list(side + 1)})
	}
	return matrices
}

// noGenerators are right, but without columns, or with too few rows.
func noGenerators() []api.Matrix {
	var matrices []api.Matrix
	for _, rows := range []int{0, 1, 2, 63, 64} {
		matrices = append(matrices, noughts(rows, 0))
	}
	for _, sides := range [][2]int{{0, 1}, {0, 64}, {1, 2}, {1, 64}, {4, 5}, {62, 63}, {63, 64}} {
		matrices = append(matrices,
			noughts(sides[0], sides[1]),
			filled(sides[0], sides[1], 1),
			slow(sides[0], sides[1], func(i, j int) byte { return oneIf(i == j) }))
	}
	return matrices
}

// ErrShape is told whatever else is wrong.
func TestWhatIsNoGenerator(t *testing.T) {
	for _, g := range append(notRight(), noGenerators()...) {
		for _, lost := range []api.Set{0, 1, 3, 1 << 5, 1<<63 - 1, 1 << 63, math.MaxUint64} {
			fails(t, g, lost, api.ErrShape)
		}
		// Just the number behind the last row.
		if g.Rows >= 0 && g.Rows < 64 {
			fails(t, g, 1<<g.Rows, api.ErrShape)
		}
	}
}

// A number that is no row, alone, beside one that is, beside all that are: of
// generators that are recovered without it, and of such that are not.
func TestSetsWithANumberThatIsNoRow(t *testing.T) {
	for _, rows := range []int{1, 2, 5, 31, 32, 33, 62, 63} {
		for _, g := range []api.Matrix{identity(rows), noughts(rows, rows), filled(rows, 1, 1), noughts(rows, 1)} {
			all := set(rising(0, rows)...)
			for number := rows; number < 64; number++ {
				for _, lost := range []api.Set{set(number), all | set(number), set(0, number), set(rows-1) | set(number), math.MaxUint64, ^all} {
					fails(t, g, lost, api.ErrArg)
				}
			}
		}
	}
}

// Of MaxSide rows each number is one.
func TestEachNumberOfMaxSideRowsIsOne(t *testing.T) {
	g := slow(64, 1, func(i, _ int) byte { return byte(i + 1) })
	for number := range 64 {
		want := 0
		if number == 0 {
			want = 1
		}
		judged(t, "one column", g, []int{number}, []int{want}, true)
	}
	judged(t, "one column, all lost", g, rising(0, 64), nil, false)
}

// What is not recovered is no error, and there is nothing beside it.
func TestNotRecoveredIsNoError(t *testing.T) {
	for _, k := range append(small(), great()...) {
		fails(t, k.g, set(rising(0, k.g.Rows)...), api.OK)
		fails(t, k.g, set(rising(0, k.g.Rows-k.g.Cols+1)...), api.OK)
		if slowRank(k.g) < k.g.Cols {
			fails(t, k.g, 0, api.OK)
			fails(t, k.g, 1, api.OK)
		}
	}
}

// anySide is one that may be, or an int of any size.
func anySide(from *source) int {
	ends := []int{math.MinInt, -1, 65, 128, math.MaxInt}
	if from.below(12) == 0 {
		return ends[from.below(len(ends))]
	}
	return from.below(8)
}

// Anything at all is answered as the document says.
func TestAnythingAtAll(t *testing.T) {
	found := map[api.Errno]int{}
	for seed := range 30000 {
		from := seeded(seed)
		g := api.Matrix{Rows: anySide(from), Cols: anySide(from)}
		size := from.below(20)
		if from.below(8) > 0 && max(g.Rows, g.Cols) <= 65 && min(g.Rows, g.Cols) >= 0 {
			size = g.Rows * g.Cols
		}
		g.Data = from.list(size)
		lost := api.Set(from.below(256)) >> from.below(8)
		if from.below(10) == 0 {
			lost |= 1 << from.below(64)
		}
		right := g.Rows >= 0 && g.Rows <= 64 && g.Cols >= 1 && g.Cols <= g.Rows && len(g.Data) == g.Rows*g.Cols
		switch {
		case !right:
			found[api.ErrShape]++
			fails(t, g, lost, api.ErrShape)
		case len(others(g.Rows, numbersOf(lost))) != g.Rows-len(numbersOf(lost)):
			found[api.ErrArg]++
			fails(t, g, lost, api.ErrArg)
		default:
			found[api.OK]++
			sources, ok := slowSources(g, numbersOf(lost))
			judged(t, "anything", g, numbersOf(lost), sources, ok)
		}
	}
	for _, e := range []api.Errno{api.OK, api.ErrShape, api.ErrArg} {
		if found[e] < 1000 {
			t.Errorf("%v is asked for %d times", e, found[e])
		}
	}
}
