package flow_test

import (
	"slices"
	"testing"

	"recoup/api"
	"recoup/flow"
)

// P21.1

// mayIs tells where May answers otherwise.
func mayIs(t *testing.T, name string, f api.Flow, want bool) {
	t.Helper()
	if got := flow.May(f); got != want {
		t.Errorf("%s: May = %v, want %v", name, got, want)
	}
}

func TestFlowsThatMayBe(t *testing.T) {
	everyFlow(func(name string, f api.Flow) { mayIs(t, name, f, true) })
	for _, m := range matrices() {
		mayIs(t, "of a matrix", slowOf(m), true)
	}
}

func TestMayAtTheEdges(t *testing.T) {
	many := func(count int) [][]api.Term { return make([][]api.Term, count) }
	last := chain(9, 3)
	for _, c := range []struct {
		name string
		f    api.Flow
		want bool
	}{
		{"a term of the node itself", api.Flow{Inputs: []int{0}, Nodes: nodes(node(1, 1)), Outs: []int{1}}, false},
		{"a factor 0", api.Flow{Inputs: []int{0}, Nodes: nodes(node(0, 0)), Outs: []int{1}}, false},
		{"inputs that fall", api.Flow{Inputs: []int{1, 0}}, false},
		{"an input twice", api.Flow{Inputs: []int{1, 1}}, false},
		{"an input twice, behind others", api.Flow{Inputs: []int{1, 2, 3, 3}}, false},
		{"inputs that rise, fall, rise", api.Flow{Inputs: []int{1, 4, 3, 5}}, false},
		{"the input 63", api.Flow{Inputs: []int{63}}, true},
		{"the input 64", api.Flow{Inputs: []int{64}}, false},
		{"the inputs 0 to 63", api.Flow{Inputs: counted(0, 64)}, true},
		{"the inputs 0 to 64", api.Flow{Inputs: counted(0, 65)}, false},
		{"the inputs 1 to 64", api.Flow{Inputs: counted(1, 65)}, false},
		{"the inputs -1 to 62", api.Flow{Inputs: counted(-1, 63)}, false},
		{"terms that fall", api.Flow{Inputs: []int{0, 1}, Nodes: nodes(node(1, 1, 0, 1))}, false},
		{"a term twice", api.Flow{Inputs: []int{0, 1}, Nodes: nodes(node(1, 1, 1, 2))}, false},
		{"a term below 0", api.Flow{Inputs: []int{0, 1}, Nodes: nodes(node(-1, 1))}, false},
		{"a term below 0 ahead of others", api.Flow{Inputs: []int{0, 1}, Nodes: nodes(node(-1, 1, 0, 1, 1, 1))}, false},
		{"a term of the value ahead", api.Flow{Inputs: []int{0}, Nodes: nodes(node(0, 1), node(1, 1))}, true},
		{"a term of a node behind", api.Flow{Inputs: []int{0}, Nodes: nodes(node(2, 1), node(0, 1))}, false},
		{"a term of no value", api.Flow{Inputs: []int{0}, Nodes: nodes(node(0, 1), node(0, 1, 3, 1))}, false},
		{"a term of nothing", api.Flow{Nodes: nodes(node(0, 1))}, false},
		{"a factor 0 among others", api.Flow{Inputs: []int{0, 1, 2}, Nodes: nodes(node(0, 1, 1, 0, 2, 3))}, false},
		{"a factor 0 in the last node", api.Flow{Inputs: []int{0}, Nodes: nodes(nil, node(0, 1), node(0, 0))}, false},
		{"the factor 255", api.Flow{Inputs: []int{0}, Nodes: nodes(node(0, 255))}, true},
		{"no values, an out", api.Flow{Outs: []int{0}}, false},
		{"the last value comes out", api.Flow{Inputs: []int{5}, Nodes: nodes(nil, nil), Outs: []int{2}}, true},
		{"one more than the last value", api.Flow{Inputs: []int{5}, Nodes: nodes(nil, nil), Outs: []int{3}}, false},
		{"an out below 0", api.Flow{Inputs: []int{5}, Nodes: nodes(nil, nil), Outs: []int{0, -1}}, false},
		{"a block's number, not a value's", api.Flow{Inputs: []int{5}, Outs: []int{5}}, false},
		{"64 outs", api.Flow{Nodes: nodes(nil), Outs: make([]int, 64)}, true},
		{"65 outs", api.Flow{Nodes: nodes(nil), Outs: make([]int, 65)}, false},
		{"4096 nodes", api.Flow{Nodes: many(api.MaxFlow)}, true},
		{"4097 nodes", api.Flow{Nodes: many(api.MaxFlow + 1)}, false},
		{"4096 nodes and 64 inputs", api.Flow{Inputs: counted(0, 64), Nodes: many(api.MaxFlow), Outs: []int{4159}}, true},
		{"4097 nodes and 64 inputs", api.Flow{Inputs: counted(0, 64), Nodes: many(api.MaxFlow + 1), Outs: []int{4159}}, false},
		{"one more than the last of all values", api.Flow{Inputs: counted(0, 64), Nodes: many(api.MaxFlow), Outs: []int{4160}}, false},
		{"a chain", last, true},
		{"a chain with a node more", api.Flow{Inputs: last.Inputs, Nodes: append(last.Nodes, nil), Outs: last.Outs}, false},
	} {
		mayIs(t, c.name, c.f, c.want)
	}
}

// lists are all of at most so many of some things.
func lists[T any](most int, of []T) [][]T {
	made := [][]T{nil}
	for from := 0; most > 0; most-- {
		to := len(made)
		for _, list := range made[from:to] {
			for _, thing := range of {
				made = append(made, append(slices.Clone(list), thing))
			}
		}
		from = to
	}
	return made
}

// All flows of at most two inputs, one or two nodes and an out, of few numbers,
// are gone through.
func TestMayOfAllLittleFlows(t *testing.T) {
	var terms []api.Term
	for of := -1; of <= 3; of++ {
		for by := range 3 {
			terms = append(terms, api.Term{Of: of, By: byte(by)})
		}
	}
	found := map[bool]int{}
	for _, inputs := range lists(2, []int{-1, 0, 1, 63, 64}) {
		for _, first := range lists(2, terms) {
			for _, outs := range lists(1, []int{-1, 0, 1, 2, 3, 4}) {
				for _, both := range [][][]api.Term{nodes(first), nodes(nil, first)} {
					f := api.Flow{Inputs: inputs, Nodes: both, Outs: outs}
					want := slowMay(f)
					found[want]++
					if flow.May(f) != want {
						t.Fatalf("May of %s is not %v", written(f), want)
					}
				}
			}
		}
	}
	if found[true] < 300 || found[false] < 300 {
		t.Errorf("%d of them may be, %d may not", found[true], found[false])
	}
}

// Each number of a flow that may be is made another one in turn.
func TestMayOfAnyNumber(t *testing.T) {
	found := map[bool]int{}
	look := func(f api.Flow) {
		want := slowMay(f)
		found[want]++
		mayIs(t, written(f), f, want)
	}
	for _, k := range small() {
		for _, n := range append(edges(), counted(-3, 70)...) {
			for i := range k.f.Inputs {
				f := copied(k.f)
				f.Inputs[i] = n
				look(f)
			}
			for i := range k.f.Outs {
				f := copied(k.f)
				f.Outs[i] = n
				look(f)
			}
			for i, terms := range k.f.Nodes {
				for j := range terms {
					f := copied(k.f)
					f.Nodes[i][j].Of = n
					look(f)
					f.Nodes[i][j] = api.Term{Of: terms[j].Of, By: byte(n)}
					look(f)
				}
			}
		}
	}
	if found[true] < 1000 || found[false] < 1000 {
		t.Errorf("%d of them may be, %d may not", found[true], found[false])
	}
}
