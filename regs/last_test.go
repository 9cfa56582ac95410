package regs_test

import (
	"slices"
	"testing"

	"recoup/api"
	"recoup/regs"
)

// P23.1

// lastIs tells where Last answers otherwise.
func lastIs(t *testing.T, name string, f api.Flow, want []int) {
	t.Helper()
	if got, e := regs.Last(f); !slices.Equal(got, want) || e != api.OK {
		t.Errorf("%s: Last = %v, %v, want %v, of %.300s", name, got, e, want, written(f))
	}
}

func TestLast(t *testing.T) {
	everyFlow(func(name string, f api.Flow) { lastIs(t, name, f, slowLast(f)) })
}

func TestLastAtTheEdges(t *testing.T) {
	for _, c := range []struct {
		name string
		f    api.Flow
		want []int
	}{
		{"the example", example(), []int{1, 0, 2, 2}},
		{"nothing", api.Flow{}, nil},
		{"inputs alone", api.Flow{Inputs: []int{3, 4}}, []int{-1, -1}},
		{"an input that comes out, no nodes", api.Flow{Inputs: []int{3, 4}, Outs: []int{1, 1}}, []int{-1, 0}},
		{"nodes without terms", api.Flow{Nodes: nodes(nil, nil, nil), Outs: []int{1}}, []int{-1, 3, -1}},
		{"the last node, not used", api.Flow{Inputs: []int{0}, Nodes: nodes(node(0, 1), node(0, 2, 1, 3))}, []int{1, 1, -1}},
		{"an out that is used by nodes, too", api.Flow{Inputs: []int{0}, Nodes: nodes(node(0, 1), node(1, 2)), Outs: []int{1, 0}}, []int{2, 2, -1}},
		{"nodes that nobody uses use others", api.Flow{Inputs: []int{0}, Nodes: nodes(node(0, 1), node(0, 1), nil), Outs: []int{1}}, []int{1, 3, -1, -1}},
		{"places, not values", api.Flow{Inputs: []int{20, 30, 40}, Nodes: nodes(node(0, 1), node(1, 1), node(3, 1, 4, 1)), Outs: []int{5}}, []int{0, 1, -1, 2, 2, 3}},
		{"used first and last", api.Flow{Inputs: []int{8}, Nodes: nodes(node(0, 1), nil, node(0, 1)), Outs: []int{3}}, []int{2, -1, -1, 3}},
	} {
		lastIs(t, c.name, c.f, c.want)
	}
}
