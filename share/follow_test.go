package share_test

import (
	"bytes"
	"slices"
	"testing"

	"recoup/api"
	"recoup/flow"
	"recoup/share"
)

// P22.3

// leaves tells where another flow has other Inputs, or where something else
// comes out of it.
func leaves(t *testing.T, name string, f, g api.Flow) {
	t.Helper()
	before, e := flow.Matrix(f, api.MaxSide)
	behind, e1 := flow.Matrix(g, api.MaxSide)
	if !bytes.Equal(before.Data, behind.Data) || e != api.OK || e1 != api.OK || !slices.Equal(f.Inputs, g.Inputs) {
		t.Errorf("%s: of %.300s comes %v, %v, of %.300s %v, %v", name, written(f), before, e, written(g), behind, e1)
	}
	handed := blocks(api.MaxSide, 5)
	outs, e := flow.Run(f, handed)
	others, e1 := flow.Run(g, handed)
	if !slices.EqualFunc(outs, others, bytes.Equal) || e != api.OK || e1 != api.OK {
		t.Errorf("%s: Run of %.300s is %v, %v, of %.300s %v, %v", name, written(f), outs, e, written(g), others, e1)
	}
}

// sumsOf are the sums of a flow, as layer 21 counts them.
func sumsOf(f api.Flow) int {
	sums, _, e := flow.Cost(f)
	if e != api.OK {
		panic(e)
	}
	return sums
}

func TestTakingOutLeavesWhatComesOut(t *testing.T) {
	everyFlow(func(name string, f api.Flow) {
		g, _, e := share.Once(f)
		if e != api.OK {
			t.Fatalf("%s: Once: %v", name, e)
		}
		leaves(t, name, f, g)
	})
}

func TestShareLeavesWhatComesOut(t *testing.T) {
	everyFlow(func(name string, f api.Flow) { leaves(t, name, f, must(share.Share(f))) })
}

// By the models, too: what comes out is worked out byte by byte.
func TestWhatComesOutByTheModels(t *testing.T) {
	look := func(name string, f api.Flow) {
		want, got := slowMatrix(f, api.MaxSide), slowMatrix(must(share.Share(f)), api.MaxSide)
		if !bytes.Equal(got.Data, want.Data) {
			t.Errorf("%s: of %.300s comes %v, shared %v", name, written(f), want, got)
		}
	}
	for _, k := range small() {
		look(k.name, k.f)
	}
	for i, m := range matrices() {
		f := must(flow.Of(m))
		look("matrix", f)
		if got := must(flow.Matrix(must(share.Share(f)), m.Cols)); !bytes.Equal(got.Data, m.Data) {
			t.Errorf("matrix %d: shared %v", i, got)
		}
	}
}

// Each pair that is taken out makes the sums fewer by one less than In, and the
// nodes more by one.
func TestTakingOutMakesSumsFewer(t *testing.T) {
	taken := 0
	everyFlow(func(name string, f api.Flow) {
		for sumsOf(f) < 300 {
			best, ok, e := share.Best(f)
			g, once, e1 := share.Once(f)
			if ok != once || e != api.OK || e1 != api.OK {
				t.Fatalf("%s: Best: %v, %v, Once: %v, %v", name, ok, e, once, e1)
			}
			if !ok {
				break
			}
			if sumsOf(g) != sumsOf(f)-(best.In-1) || len(g.Nodes) != len(f.Nodes)+1 {
				t.Errorf("%s: %d sums, without %v %d", name, sumsOf(f), best, sumsOf(g))
			}
			taken, f = taken+1, g
		}
	})
	if taken < 3000 {
		t.Errorf("%d pairs were taken out", taken)
	}
}

func TestShareCostsNoMore(t *testing.T) {
	less := 0
	everyFlow(func(name string, f api.Flow) {
		g := must(share.Share(f))
		if sumsOf(g) > sumsOf(f) {
			t.Errorf("%s: %d sums, shared %d", name, sumsOf(f), sumsOf(g))
		}
		if sumsOf(g) < sumsOf(f) {
			less++
		}
		bestIs(t, name, g, share.Pair{}, false)
		onceIs(t, name, g, g, false)
		shareIs(t, name, g, g)
	})
	if less < 500 {
		t.Errorf("%d flows cost less", less)
	}
}
