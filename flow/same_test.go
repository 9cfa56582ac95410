package flow_test

import (
	"math"
	"slices"
	"testing"

	"recoup/api"
	"recoup/flow"
)

// P21.1

// sameIs tells where Same answers otherwise, whichever flow stands first.
func sameIs(t *testing.T, what string, a, b api.Flow, want bool) {
	t.Helper()
	if flow.Same(a, b) != want || flow.Same(b, a) != want {
		t.Errorf("%s: Same is not %v", what, want)
	}
}

func TestSameAsItself(t *testing.T) {
	everyFlow(func(name string, f api.Flow) {
		sameIs(t, name, f, f, true)
		sameIs(t, name, f, copied(f), true)
	})
}

// others are flows that have one thing else than a flow: a number, a number more
// or less at the end or ahead, a node more or less, two that stand the other way
// round.
func others(f api.Flow) []api.Flow {
	var made []api.Flow
	other := func(change func(o *api.Flow)) {
		o := copied(f)
		change(&o)
		made = append(made, o)
	}
	numberLists := []func(o *api.Flow) *[]int{
		func(o *api.Flow) *[]int { return &o.Inputs },
		func(o *api.Flow) *[]int { return &o.Outs },
	}
	for _, list := range numberLists {
		for i := range *list(&f) {
			other(func(o *api.Flow) { (*list(o))[i]++ })
			other(func(o *api.Flow) { *list(o) = slices.Delete(*list(o), i, i+1) })
		}
		other(func(o *api.Flow) { *list(o) = append(*list(o), 0) })
		other(func(o *api.Flow) { *list(o) = append([]int{-1}, *list(o)...) })
	}
	for i, terms := range f.Nodes {
		for j := range terms {
			other(func(o *api.Flow) { o.Nodes[i][j].Of++ })
			other(func(o *api.Flow) { o.Nodes[i][j].By++ })
			other(func(o *api.Flow) { o.Nodes[i] = slices.Delete(o.Nodes[i], j, j+1) })
		}
		other(func(o *api.Flow) { o.Nodes[i] = append(o.Nodes[i], api.Term{}) })
		other(func(o *api.Flow) { o.Nodes = slices.Insert(o.Nodes, i, node(7, 7)) })
	}
	other(func(o *api.Flow) { o.Nodes = append(o.Nodes, nil) })
	other(func(o *api.Flow) { o.Nodes = append(o.Nodes, []api.Term{{}}) })
	return made
}

func TestSameAsAnother(t *testing.T) {
	look := func(name string, f api.Flow) {
		for _, other := range others(f) {
			sameIs(t, name+": "+written(f)+" and "+written(other), f, other, false)
		}
	}
	for _, k := range small() {
		look(k.name, k.f)
	}
	for seed := range 100 {
		look("any one", seeded(seed).flow(5, 5, 4, 5))
	}
}

// Of each two flows it is told as their texts tell it.
func TestSameOfEachTwo(t *testing.T) {
	all := small()
	for seed := range 300 {
		all = append(all, kind{"any one", seeded(seed).flow(1, 1, 1, 1)})
	}
	for _, a := range all {
		for _, b := range all {
			sameIs(t, written(a.f)+" and "+written(b.f), a.f, b.f, written(a.f) == written(b.f))
		}
	}
}

func TestSameOfNilAndOfNoElements(t *testing.T) {
	empty := api.Flow{Inputs: []int{}, Nodes: [][]api.Term{}, Outs: []int{}}
	sameIs(t, "nothing", api.Flow{}, empty, true)
	sameIs(t, "a node", api.Flow{Nodes: nodes(nil)}, api.Flow{Inputs: []int{}, Nodes: nodes([]api.Term{}), Outs: []int{}}, true)
	sameIs(t, "a node and none", api.Flow{Nodes: nodes(nil)}, empty, false)
	sameIs(t, "two nodes and one", api.Flow{Nodes: nodes(nil, nil)}, api.Flow{Nodes: nodes([]api.Term{})}, false)
}

// Whether they may be is not asked.
func TestSameOfFlowsThatMayNotBe(t *testing.T) {
	for _, f := range []api.Flow{
		{Outs: []int{0}},
		{Outs: make([]int, 65)},
		{Inputs: []int{3, 2, math.MinInt}},
		{Nodes: make([][]api.Term, api.MaxFlow+1)},
		{Nodes: nodes(node(math.MaxInt, 0, -1, 0))},
	} {
		sameIs(t, written(f), f, copied(f), true)
		sameIs(t, written(f), f, example(), false)
		for _, other := range others(f)[:2] {
			sameIs(t, written(f), f, other, false)
		}
	}
}
