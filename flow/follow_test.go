package flow_test

import (
	"testing"

	"recoup/api"
	"recoup/flow"
	"recoup/matrix"
)

// P21.6

// applied is matrix.Apply of the bytes that the blocks have at each place.
func applied(m api.Matrix, handed [][]byte, length int) [][]byte {
	outs := make([][]byte, m.Rows)
	for place := range length {
		column := make([]byte, m.Cols)
		for j := range column {
			column[j] = handed[j][place]
		}
		for i, element := range must(matrix.Apply(m, column)) {
			outs[i] = append(outs[i], element)
		}
	}
	return outs
}

func TestRunIsMatrixApplied(t *testing.T) {
	everyFlow(func(name string, f api.Flow) {
		for _, cols := range columns(f) {
			if cols > 0 {
				handed := blocks(cols, 5)
				runIs(t, name, f, handed, applied(must(flow.Matrix(f, cols)), handed, 5))
			}
		}
	})
}

func TestRunOfOfIsApply(t *testing.T) {
	for _, m := range matrices() {
		f := must(flow.Of(m))
		for _, length := range []int{0, 1, 9} {
			if m.Cols > 0 {
				handed := blocks(m.Cols, length)
				runIs(t, "of a matrix", f, handed, applied(m, handed, length))
			}
		}
	}
}

func TestMatrixOfOfIsTheMatrix(t *testing.T) {
	for _, m := range matrices() {
		f := must(flow.Of(m))
		mayIs(t, "of a matrix", f, true)
		matrixIs(t, "of a matrix", f, m.Cols, m)
	}
}

func TestTrimLeavesWhatComesOut(t *testing.T) {
	everyFlow(func(name string, f api.Flow) {
		trimmed := must(flow.Trim(f))
		for _, cols := range columns(f) {
			matrixIs(t, name, trimmed, cols, must(flow.Matrix(f, cols)))
			handed := blocks(cols, 3)
			runIs(t, name, trimmed, handed, must(flow.Run(f, handed)))
		}
	})
}

func TestTrimCostsNoMore(t *testing.T) {
	less := 0
	everyFlow(func(name string, f api.Flow) {
		trimmed := must(flow.Trim(f))
		sums, products, _ := flow.Cost(f)
		leftSums, leftProducts, e := flow.Cost(trimmed)
		if leftSums > sums || leftProducts > products || e != api.OK {
			t.Errorf("%s: trimmed %d, %d, %v, ahead of it %d, %d", name, leftSums, leftProducts, e, sums, products)
		}
		if leftSums < sums {
			less++
		}
	})
	if less < 100 {
		t.Errorf("%d flows cost less", less)
	}
}

func TestTrimOnceMoreChangesNothing(t *testing.T) {
	everyFlow(func(name string, f api.Flow) {
		trimmed := must(flow.Trim(f))
		trimIs(t, name, trimmed, trimmed)
		sameIs(t, name, trimmed, must(flow.Trim(trimmed)), true)
	})
	for _, m := range matrices() {
		f := must(flow.Of(m))
		trimIs(t, "of a matrix", f, f)
	}
}

// All Outs hang on all that Trim leaves.
func TestTrimLeavesNothingThatIsNotHungOn(t *testing.T) {
	everyFlow(func(name string, f api.Flow) {
		trimmed := must(flow.Trim(f))
		mayIs(t, name, trimmed, true)
		if hung := slowHung(trimmed); len(hung) != len(trimmed.Inputs)+len(trimmed.Nodes) {
			t.Errorf("%s: Outs hang on %d values of %s", name, len(hung), written(trimmed))
		}
	})
}
