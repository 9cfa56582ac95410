package share_test

import (
	"math"
	"slices"
	"testing"

	"recoup/api"
	"recoup/share"
)

// mayNotBe are flows that may not be, each by one thing alone, though a pair is
// in two nodes of each of them.
func mayNotBe() []api.Flow {
	var made []api.Flow
	turned := func(turn func(f *api.Flow)) {
		f := copied(api.Flow{
			Inputs: []int{2, 5, 6},
			Nodes:  nodes(node(0, 1, 2, 3), nil, node(1, 1, 3, 2, 4, 9), node(0, 1, 2, 3)),
			Outs:   []int{5, 0, 3},
		})
		turn(&f)
		made = append(made, f)
	}
	for _, n := range append(edges(), 64) {
		for i := range 3 {
			turned(func(f *api.Flow) { f.Inputs[i] = n })
			turned(func(f *api.Flow) { f.Outs[i] = n })
			turned(func(f *api.Flow) { f.Nodes[2][i].Of = n })
		}
	}
	turned(func(f *api.Flow) { f.Inputs[1] = 2 })
	turned(func(f *api.Flow) { slices.Reverse(f.Inputs) })
	turned(func(f *api.Flow) { f.Inputs = append(f.Inputs, 0) })
	turned(func(f *api.Flow) { f.Nodes[0][1].By = 0 })
	turned(func(f *api.Flow) { f.Nodes[3][0].By = 0 })
	turned(func(f *api.Flow) { f.Nodes[0][1].Of = 3 })
	turned(func(f *api.Flow) { f.Nodes[1] = node(4, 1) })
	turned(func(f *api.Flow) { f.Nodes[1] = node(5, 1) })
	turned(func(f *api.Flow) { f.Nodes[1] = node(6, 1) })
	turned(func(f *api.Flow) { slices.Reverse(f.Nodes[2]) })
	turned(func(f *api.Flow) { slices.Reverse(f.Nodes[3]) })
	turned(func(f *api.Flow) { f.Nodes[2][1].Of = 1 })
	turned(func(f *api.Flow) { f.Outs[1] = 7 })
	turned(func(f *api.Flow) { f.Outs[1] = -1 })
	turned(func(f *api.Flow) { f.Outs = make([]int, 65) })
	turned(func(f *api.Flow) { f.Nodes = append(f.Nodes, make([][]api.Term, api.MaxFlow-3)...) })
	return append(made,
		api.Flow{Inputs: []int{0}, Nodes: nodes(node(0, 0)), Outs: []int{1}},
		api.Flow{Outs: []int{0}},
		api.Flow{Nodes: nodes(node(0, 1)), Outs: []int{0}},
		api.Flow{Inputs: []int{64}},
		api.Flow{Inputs: []int{math.MinInt, math.MaxInt}},
		api.Flow{Inputs: counted(0, 1000)},
		api.Flow{Nodes: nodes(node(math.MinInt, 1), node(math.MaxInt, 1))},
		api.Flow{Nodes: append(wide(1, 256, 257).Nodes, node(0, 0))},
		api.Flow{Nodes: empty(api.MaxFlow + 1)},
		api.Flow{Nodes: empty(api.MaxFlow), Outs: []int{api.MaxFlow}})
}

// isRefused tells where a flow that may not be is not refused by all calls, or
// where something stands beside an error.
func isRefused(t *testing.T, f api.Flow) {
	t.Helper()
	nothing := written(api.Flow{})
	if p, ok, e := share.Best(f); p != (share.Pair{}) || ok || e != api.ErrArg {
		t.Errorf("%.300s: Best = %v, %v, %v", written(f), p, ok, e)
	}
	if g, ok, e := share.Once(f); written(g) != nothing || ok || e != api.ErrArg {
		t.Errorf("%.300s: Once = %.300s, %v, %v", written(f), written(g), ok, e)
	}
	if g, e := share.Share(f); written(g) != nothing || e != api.ErrArg {
		t.Errorf("%.300s: Share = %.300s, %v", written(f), written(g), e)
	}
}

func TestFlowsThatMayNotBeAreRefused(t *testing.T) {
	for _, f := range mayNotBe() {
		if slowMay(f) {
			t.Errorf("%.300s may be", written(f))
		}
		isRefused(t, f)
	}
}

// change makes one thing of a flow another one.
func (s *source) change(f *api.Flow) {
	numbers := append(edges(), counted(-1, 12)...)
	list := one(s, []*[]int{&f.Inputs, &f.Outs})
	switch s.below(8) {
	case 0:
		*list = append(*list, one(s, numbers))
	case 1:
		if len(*list) > 0 {
			(*list)[s.below(len(*list))] = one(s, numbers)
		}
	case 2:
		*list = (*list)[:max(0, len(*list)-1)]
	case 3:
		f.Nodes = append(f.Nodes, node(one(s, numbers), s.below(256)))
	case 4:
		f.Nodes = f.Nodes[:max(0, len(f.Nodes)-1)]
	default:
		if len(f.Nodes) == 0 {
			return
		}
		terms := &f.Nodes[s.below(len(f.Nodes))]
		*terms = append(*terms, api.Term{Of: one(s, numbers), By: byte(1 + s.below(255))})
		(*terms)[s.below(len(*terms))].By = byte(s.below(256))
		if s.below(2) > 0 {
			(*terms)[s.below(len(*terms))].Of = one(s, numbers)
		}
	}
}

// Anything at all is answered as the document says.
func TestAnythingAtAll(t *testing.T) {
	may, not, shared := 0, 0, 0
	for seed := range 8000 {
		s := seeded(seed)
		f := s.flow(1+s.below(3), s.below(9), 5, s.below(5), 1, 2)
		for range s.below(3) {
			s.change(&f)
		}
		if !slowMay(f) {
			not++
			isRefused(t, f)
			continue
		}
		may++
		best, ok := slowBest(f)
		bestIs(t, "anything", f, best, ok)
		once, ok := slowOnce(f)
		onceIs(t, "anything", f, once, ok)
		shareIs(t, "anything", f, slowShare(f))
		if ok {
			shared++
		}
	}
	if may < 2000 || not < 2000 || shared < 500 {
		t.Errorf("%d of the flows may be, %d may not, of %d something is shared", may, not, shared)
	}
}
