package flow_test

import (
	"bytes"
	"testing"

	"recoup/api"
	"recoup/flow"
)

// P21.3

// matrixIs tells where Matrix does not answer this matrix without an error.
func matrixIs(t *testing.T, name string, f api.Flow, cols int, want api.Matrix) {
	t.Helper()
	if m, e := flow.Matrix(f, cols); e != api.OK || !alike(m, want) {
		t.Errorf("%s: Matrix of %d columns = %v, %v, want %v", name, cols, m, e, want)
	}
}

// matrixFails tells where it does not answer ErrArg and nothing beside it.
func matrixFails(t *testing.T, name string, f api.Flow, cols int) {
	t.Helper()
	if m, e := flow.Matrix(f, cols); e != api.ErrArg || !alike(m, api.Matrix{}) {
		t.Errorf("%s: Matrix of %d columns = %v, %v", name, cols, m, e)
	}
}

// alike does not ask the package.
func alike(a, b api.Matrix) bool {
	return a.Rows == b.Rows && a.Cols == b.Cols && bytes.Equal(a.Data, b.Data)
}

// columns are the fewest that a flow may have, some more, all that may be.
func columns(f api.Flow) []int {
	var made []int
	for _, cols := range []int{least(f), least(f) + 1, least(f) + 7, 63, 64} {
		if least(f) <= cols && cols <= 64 {
			made = append(made, cols)
		}
	}
	return made
}

func TestMatrix(t *testing.T) {
	everyFlow(func(name string, f api.Flow) {
		for _, cols := range columns(f) {
			matrixIs(t, name, f, cols, slowMatrix(f, cols))
		}
	})
}

func TestMatrixAtTheEdges(t *testing.T) {
	// 2 times over and over comes round after 255 times; 4096 are 16 more than
	// 16 times that.
	power := byte(1)
	for range 16 {
		power = slowTimes(power, 2)
	}
	at := func(cols, column int, by byte) api.Matrix {
		m := noughts(1, cols)
		m.Data[column] = by
		return m
	}
	for _, c := range []struct {
		name string
		f    api.Flow
		cols int
		m    api.Matrix
	}{
		{"the example", example(), 3, of(3, 1, 0, 2, 0, 0, 0)},
		{"the example", example(), 4, of(4, 1, 0, 2, 0, 0, 0, 0, 0)},
		{"an input twice", api.Flow{Inputs: []int{1}, Outs: []int{0, 0}}, 3, of(3, 0, 1, 0, 0, 1, 0)},
		{"nothing", api.Flow{}, 0, api.Matrix{}},
		{"nothing", api.Flow{}, 1, api.Matrix{Cols: 1}},
		{"nothing", api.Flow{}, 64, api.Matrix{Cols: 64}},
		{"no outs", api.Flow{Inputs: []int{2}, Nodes: nodes(node(0, 1))}, 3, api.Matrix{Cols: 3}},
		{"no inputs", api.Flow{Nodes: nodes(nil), Outs: []int{0, 0}}, 0, api.Matrix{Rows: 2}},
		{"no inputs", api.Flow{Nodes: nodes(nil), Outs: []int{0, 0}}, 2, noughts(2, 2)},
		{"no inputs, 64 outs", api.Flow{Nodes: nodes(nil), Outs: make([]int, 64)}, 64, noughts(64, 64)},
		{"a chain", chain(63, 2), 64, at(64, 63, power)},
		{"a chain", chain(0, 2), 1, at(1, 0, power)},
		{"a chain of ones", chain(5, 1), 7, at(7, 5, 1)},
		{"a node of a node", api.Flow{Inputs: []int{0}, Nodes: nodes(node(0, 2), node(0, 1, 1, 128)), Outs: []int{2}}, 1, of(1, 28)},
		{"what cancels out", api.Flow{Inputs: []int{1}, Nodes: nodes(node(0, 1), node(0, 1, 1, 1)), Outs: []int{2}}, 2, noughts(1, 2)},
		{"inverse factors", api.Flow{Inputs: []int{1}, Nodes: nodes(node(0, 2), node(1, 142)), Outs: []int{2}}, 2, of(2, 0, 1)},
	} {
		matrixIs(t, c.name, c.f, c.cols, c.m)
	}
	f := api.Flow{Inputs: counted(0, 64), Outs: counted(0, 64)}
	matrixIs(t, "all inputs", f, 64, identity(64))
}

// There must be a column for each of Inputs, and no more of them than a matrix
// may have.
func TestMatrixOfOtherColumns(t *testing.T) {
	everyFlow(func(name string, f api.Flow) {
		for _, cols := range append(edges(), least(f)-1, least(f)/2-1) {
			matrixFails(t, name, f, cols)
		}
	})
	for _, cols := range []int{0, 1, 2, 62, 63} {
		matrixFails(t, "the last input", api.Flow{Inputs: []int{63}}, cols)
		matrixFails(t, "all inputs", api.Flow{Inputs: counted(0, 64)}, cols)
		matrixFails(t, "none and the last one", api.Flow{Inputs: []int{0, 63}, Outs: []int{0}}, cols)
	}
}
