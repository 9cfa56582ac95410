package flow_test

import (
	"testing"

	"recoup/api"
	"recoup/flow"
)

// P21.5

// costIs tells where Cost does not answer these numbers without an error.
func costIs(t *testing.T, name string, f api.Flow, sums, products int) {
	t.Helper()
	if s, p, e := flow.Cost(f); e != api.OK || s != sums || p != products {
		t.Errorf("%s: Cost = %d, %d, %v, want %d, %d", name, s, p, e, sums, products)
	}
}

func TestCost(t *testing.T) {
	everyFlow(func(name string, f api.Flow) {
		sums, products := slowCost(f)
		costIs(t, name, f, sums, products)
	})
}

func TestCostAtTheEdges(t *testing.T) {
	for _, c := range []struct {
		name           string
		f              api.Flow
		sums, products int
	}{
		{"nothing", api.Flow{}, 0, 0},
		{"the example", example(), 1, 1},
		{"nodes without terms", api.Flow{Nodes: nodes(nil, nil, nil)}, 0, 0},
		{"inputs that come out", api.Flow{Inputs: []int{0, 1}, Outs: []int{0, 1}}, 0, 0},
		{"once", api.Flow{Inputs: []int{0}, Nodes: nodes(node(0, 1))}, 0, 0},
		{"twice", api.Flow{Inputs: []int{0}, Nodes: nodes(node(0, 2))}, 0, 1},
		{"nodes without terms among others", api.Flow{Inputs: []int{0, 1, 2}, Nodes: nodes(nil, node(0, 1, 1, 1, 2, 1), nil, node(0, 255, 5, 254))}, 3, 2},
		{"a chain of twos", chain(0, 2), 0, 4096},
		{"a chain of ones", chain(0, 1), 0, 0},
		{"nodes on which nothing hangs", api.Flow{Inputs: []int{0, 2}, Nodes: nodes(node(0, 3, 1, 3), node(0, 1)), Outs: []int{3}}, 1, 2},
	} {
		costIs(t, c.name, c.f, c.sums, c.products)
	}
}

// trimIs tells where Trim does not answer this flow without an error.
func trimIs(t *testing.T, name string, f, want api.Flow) {
	t.Helper()
	if trimmed, e := flow.Trim(f); e != api.OK || written(trimmed) != written(want) {
		t.Errorf("%s: Trim of %s = %s, %v, want %s", name, written(f), written(trimmed), e, written(want))
	}
}

func TestTrim(t *testing.T) {
	everyFlow(func(name string, f api.Flow) { trimIs(t, name, f, slowTrim(f)) })
}

func TestTrimAtTheEdges(t *testing.T) {
	long := chain(9, 3)
	short := api.Flow{Inputs: []int{9}, Nodes: long.Nodes[:7], Outs: []int{7, 0}}
	for _, c := range []struct {
		name    string
		f, want api.Flow
	}{
		{"nothing", api.Flow{}, api.Flow{}},
		{"the example", example(), example()},
		{"inputs and nodes, but no outs", api.Flow{Inputs: []int{0, 63}, Nodes: nodes(node(0, 1), nil)}, api.Flow{}},
		{"the chapter's",
			api.Flow{Inputs: []int{0, 2}, Nodes: nodes(node(0, 1), node(1, 3)), Outs: []int{2}},
			api.Flow{Inputs: []int{0}, Nodes: nodes(node(0, 1)), Outs: []int{1}}},
		{"the other way round",
			api.Flow{Inputs: []int{0, 2}, Nodes: nodes(node(0, 1), node(1, 3)), Outs: []int{3, 1}},
			api.Flow{Inputs: []int{2}, Nodes: nodes(node(0, 3)), Outs: []int{1, 0}}},
		{"a node without terms that is hung on",
			api.Flow{Inputs: []int{4}, Nodes: nodes(nil, nil, node(2, 7)), Outs: []int{3}},
			api.Flow{Nodes: nodes(nil, node(0, 7)), Outs: []int{1}}},
		{"a node that cancels out stays",
			api.Flow{Inputs: []int{4, 5}, Nodes: nodes(node(0, 1), node(0, 1, 2, 1)), Outs: []int{3}},
			api.Flow{Inputs: []int{4}, Nodes: nodes(node(0, 1), node(0, 1, 1, 1)), Outs: []int{2}}},
		{"two alike stay",
			api.Flow{Inputs: []int{4}, Nodes: nodes(node(0, 1), node(0, 1)), Outs: []int{2, 1, 2}},
			api.Flow{Inputs: []int{4}, Nodes: nodes(node(0, 1), node(0, 1)), Outs: []int{2, 1, 2}}},
		{"a node on which only another one hangs that goes",
			api.Flow{Inputs: []int{0, 1}, Nodes: nodes(node(0, 5), node(1, 6, 2, 7), node(0, 8)), Outs: []int{4}},
			api.Flow{Inputs: []int{0}, Nodes: nodes(node(0, 8)), Outs: []int{1}}},
		{"an input alone", api.Flow{Inputs: []int{0, 63}, Nodes: nodes(node(0, 1, 1, 1)), Outs: []int{1, 1}}, api.Flow{Inputs: []int{63}, Outs: []int{0, 0}}},
		{"a chain", long, long},
		{"a chain, of which a part comes out", api.Flow{Inputs: []int{9}, Nodes: long.Nodes, Outs: []int{7, 0}}, short},
		{"4096 nodes without terms", api.Flow{Nodes: make([][]api.Term, api.MaxFlow), Outs: []int{4095, 0, 9}}, api.Flow{Nodes: nodes(nil, nil, nil), Outs: []int{2, 0, 1}}},
		{"a ladder", ladder(), ladder()},
	} {
		trimIs(t, c.name, c.f, c.want)
	}
}
