package flow_test

import (
	"math"
	"slices"
	"testing"

	"recoup/api"
	"recoup/flow"
)

// mayNotBe are flows that may not be, each by one thing alone.
func mayNotBe() []api.Flow {
	var made []api.Flow
	turned := func(turn func(f *api.Flow)) {
		f := copied(api.Flow{
			Inputs: []int{2, 5, 6},
			Nodes:  nodes(node(0, 1, 2, 3), nil, node(1, 1, 3, 2, 4, 9)),
			Outs:   []int{5, 0, 3},
		})
		turn(&f)
		made = append(made, f)
	}
	for _, n := range append(edges(), 64) {
		for i := range 3 {
			turned(func(f *api.Flow) { f.Inputs[i] = n })
			turned(func(f *api.Flow) { f.Outs[i] = n })
			turned(func(f *api.Flow) { f.Nodes[2][i].Of = n })
		}
	}
	turned(func(f *api.Flow) { f.Inputs[1] = 2 })
	turned(func(f *api.Flow) { slices.Reverse(f.Inputs) })
	turned(func(f *api.Flow) { f.Inputs = append(f.Inputs, 0) })
	turned(func(f *api.Flow) { f.Nodes[0][1].By = 0 })
	turned(func(f *api.Flow) { f.Nodes[2][0].By = 0 })
	turned(func(f *api.Flow) { f.Nodes[0][1].Of = 3 })
	turned(func(f *api.Flow) { f.Nodes[1] = node(4, 1) })
	turned(func(f *api.Flow) { f.Nodes[1] = node(5, 1) })
	turned(func(f *api.Flow) { slices.Reverse(f.Nodes) })
	turned(func(f *api.Flow) { slices.Reverse(f.Nodes[2]) })
	turned(func(f *api.Flow) { f.Nodes[2][1].Of = 1 })
	turned(func(f *api.Flow) { f.Outs[1] = 6 })
	turned(func(f *api.Flow) { f.Outs[1] = -1 })
	turned(func(f *api.Flow) { f.Nodes = f.Nodes[:2] })
	turned(func(f *api.Flow) { f.Outs = make([]int, 65) })
	turned(func(f *api.Flow) { f.Nodes = append(f.Nodes, make([][]api.Term, api.MaxFlow-2)...) })
	return append(made,
		api.Flow{Outs: []int{0}},
		api.Flow{Nodes: nodes(node(0, 1)), Outs: []int{0}},
		api.Flow{Inputs: []int{64}},
		api.Flow{Inputs: []int{math.MinInt, math.MaxInt}},
		api.Flow{Inputs: counted(0, 1000)},
		api.Flow{Nodes: nodes(node(math.MinInt, 1), node(math.MaxInt, 1))})
}

// isRefused tells where a flow that may not be is not refused by all calls, or
// where something stands beside an error.
func isRefused(t *testing.T, f api.Flow) {
	t.Helper()
	name := written(f)
	mayIs(t, name, f, false)
	for _, cols := range []int{0, 1, 7, 64, 65, -1} {
		matrixFails(t, name, f, cols)
	}
	for _, handed := range [][][]byte{nil, blocks(7, 2), blocks(64, 0)} {
		runFails(t, name, f, handed, api.ErrArg)
	}
	if sums, products, e := flow.Cost(f); sums != 0 || products != 0 || e != api.ErrArg {
		t.Errorf("%s: Cost = %d, %d, %v", name, sums, products, e)
	}
	if trimmed, e := flow.Trim(f); written(trimmed) != written(api.Flow{}) || e != api.ErrArg {
		t.Errorf("%s: Trim = %s, %v", name, written(trimmed), e)
	}
}

func TestFlowsThatMayNotBeAreRefused(t *testing.T) {
	for _, f := range mayNotBe() {
		if slowMay(f) {
			t.Errorf("%s may be", written(f))
		}
		isRefused(t, f)
	}
}

// change makes one thing of a flow another one.
func (s *source) change(f *api.Flow) {
	numbers := append(edges(), counted(-1, 12)...)
	list := one(s, []*[]int{&f.Inputs, &f.Outs})
	switch s.below(8) {
	case 0:
		*list = append(*list, one(s, numbers))
	case 1:
		if len(*list) > 0 {
			(*list)[s.below(len(*list))] = one(s, numbers)
		}
	case 2:
		*list = (*list)[:max(0, len(*list)-1)]
	case 3:
		f.Nodes = append(f.Nodes, node(one(s, numbers), s.below(256)))
	case 4:
		f.Nodes = f.Nodes[:max(0, len(f.Nodes)-1)]
	default:
		if len(f.Nodes) == 0 {
			return
		}
		terms := &f.Nodes[s.below(len(f.Nodes))]
		*terms = append(*terms, api.Term{Of: one(s, numbers), By: s.factor()})
		(*terms)[s.below(len(*terms))].By = byte(s.below(256))
		if s.below(2) > 0 {
			(*terms)[s.below(len(*terms))].Of = one(s, numbers)
		}
	}
}

// Anything at all is answered as the document says.
func TestAnythingAtAll(t *testing.T) {
	found := map[bool]int{}
	for seed := range 6000 {
		s := seeded(seed)
		f := s.flow(s.below(5), s.below(5), 3, s.below(5))
		for range s.below(3) {
			s.change(&f)
		}
		may := slowMay(f)
		found[may]++
		if !may {
			isRefused(t, f)
			continue
		}
		mayIs(t, written(f), f, true)
		matrixIs(t, written(f), f, 64, slowMatrix(f, 64))
		handed := blocks(least(f), 3)
		runIs(t, written(f), f, handed, slowRun(f, handed, 3*min(1, len(handed))))
		sums, products := slowCost(f)
		costIs(t, written(f), f, sums, products)
		trimIs(t, written(f), f, slowTrim(f))
	}
	if found[true] < 1000 || found[false] < 1000 {
		t.Errorf("%d of the flows may be, %d may not", found[true], found[false])
	}
}
