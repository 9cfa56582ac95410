package verdict_test

import (
	"testing"

	"recoup/api"
	"recoup/build"
	"recoup/shape"
	"recoup/verdict"
)

// P18.3

// There is just one matrix that makes the lost blocks and reads the sources
// alone, since these are independent.
func TestRebuild(t *testing.T) {
	everyLost(func(k generator, lost []int) {
		sources, want := slowSources(k.g, lost)
		m, ok, e := verdict.Rebuild(k.g, set(lost...))
		if !want {
			isNothing(t, k.name, m, ok, e)
			return
		}
		if m.Rows != len(lost) || m.Cols != k.g.Rows || len(m.Data) != m.Rows*m.Cols || !ok || e != api.OK {
			t.Fatalf("%s: Rebuild of %v is %d x %d, %v, %v", k.name, lost, m.Rows, m.Cols, ok, e)
		}
		if !alike(slowMul(m, k.g), picked(k.g, lost)) {
			t.Errorf("%s: Rebuild of %v does not make the blocks", k.name, lost)
		}
		if !readsOnly(m, sources) {
			t.Errorf("%s: Rebuild of %v reads others than %v", k.name, lost, sources)
		}
	})
}

// The words themselves: the product of the block's row and what Decode answers.
func TestRebuildIsTheProductWithDecode(t *testing.T) {
	everyLost(func(k generator, lost []int) {
		d, ok, _ := verdict.Decode(k.g, set(lost...))
		m, also, _ := verdict.Rebuild(k.g, set(lost...))
		if ok != also || ok && !alike(m, slowMul(picked(k.g, lost), d)) {
			t.Errorf("%s: Rebuild of %v = %v, %v, while Decode is %v, %v", k.name, lost, m, also, d, ok)
		}
	})
}

// A block of a portion, alone, is the others of the portion together, where
// these are sources: below the data blocks the portion's row is the next.
func TestRebuildOfALocalBlock(t *testing.T) {
	for _, sides := range [][3]int{{2, 1, 0}, {4, 2, 1}, {48, 6, 10}} {
		g := must(shape.Local(sides[0], sides[1], sides[2])).G
		k, size := sides[0], sides[0]/sides[1]
		for lost := range k {
			want := noughts(1, g.Rows)
			for i := range size {
				want.Data[lost/size*size+i] = 1
			}
			want.Data[lost], want.Data[k+lost/size] = 0, 1
			if m, ok, e := verdict.Rebuild(g, set(lost)); !ok || e != api.OK || !alike(m, want) {
				t.Errorf("%v: Rebuild of %d = %v, %v, %v", sides, lost, m, ok, e)
			}
		}
	}
}

// Lost blocks that are no data are made of the data by their own rows.
func TestRebuildOfBlocksThatAreNoData(t *testing.T) {
	for _, sides := range [][2]int{{1, 1}, {3, 4}, {32, 32}, {60, 4}} {
		g := must(build.Cross(sides[0], sides[1]))
		for lost := sides[0]; lost < g.Rows; lost++ {
			want := slow(1, g.Rows, func(_, j int) byte {
				if j < g.Cols {
					return entry(g, lost, j)
				}
				return 0
			})
			if m, ok, e := verdict.Rebuild(g, set(lost)); !ok || e != api.OK || !alike(m, want) {
				t.Errorf("%d: Rebuild of %d = %v, %v, %v", sides, lost, m, ok, e)
			}
		}
	}
}

func TestRebuildAtTheEdges(t *testing.T) {
	g := of(2, 1, 0, 0, 1, 1, 1)
	last := noughts(1, 64)
	last.Data[0] = 1
	for _, c := range []struct {
		name string
		g    api.Matrix
		lost api.Set
		m    api.Matrix
	}{
		{"the example", g, set(0), of(3, 0, 1, 1)},
		{"the example", g, set(1), of(3, 1, 0, 1)},
		{"the example", g, set(2), of(3, 1, 1, 0)},
		{"the example", g, 0, api.Matrix{Cols: 3}},
		{"one row", of(1, 2), 0, api.Matrix{Cols: 1}},
		{"a row of noughts", of(1, 2, 0), set(1), of(2, 0, 0)},
		{"a row twice", of(1, 5, 5), set(0), of(2, 0, 1)},
		{"multiples, two lost", of(1, 1, 2, 4), set(0, 2), of(3, 0, 142, 0, 0, 2, 0)},
		{"the identity", identity(64), 0, api.Matrix{Cols: 64}},
		{"the block 63", slow(64, 1, func(_, _ int) byte { return 9 }), set(63), last},
	} {
		if m, ok, e := verdict.Rebuild(c.g, c.lost); !ok || e != api.OK || !alike(m, c.m) {
			t.Errorf("%s: Rebuild of %v = %v, %v, %v, want %v", c.name, numbersOf(c.lost), m, ok, e, c.m)
		}
	}
}
