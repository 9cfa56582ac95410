package flow_test

import (
	"bytes"
	"fmt"
	"math"
	"slices"
	"testing"

	"recoup/api"
)

// source tells numbers by a simple rule that differs from seed to seed.
type source struct {
	state uint32
}

func seeded(seed int) *source {
	return &source{uint32(seed)*2654435761 + 12345}
}

// below is a number from 0 to ahead of n.
func (s *source) below(n int) int {
	s.state = s.state*1664525 + 1013904223
	return int(s.state>>16) % n
}

// list is one of so many elements.
func (s *source) list(length int) []byte {
	made := make([]byte, length)
	for i := range made {
		made[i] = byte(s.below(256))
	}
	return made
}

func one[T any](s *source, list []T) T {
	return list[s.below(len(list))]
}

// rising are at most so many numbers from 0 to ahead of n.
func (s *source) rising(n, most int) []int {
	var made []int
	for range min(most, n) {
		made = append(made, s.below(n))
	}
	slices.Sort(made)
	return slices.Compact(made)
}

// factor is 1 as often as not.
func (s *source) factor() byte {
	return one(s, []byte{1, byte(1 + s.below(255))})
}

// flow is one of at most so many inputs, of so many nodes of at most so many
// terms, and of so many outs, if it has values.
func (s *source) flow(inputs, nodes, terms, outs int) api.Flow {
	f := api.Flow{Inputs: s.rising(api.MaxSide, inputs)}
	for i := range nodes {
		var node []api.Term
		for _, value := range s.rising(len(f.Inputs)+i, s.below(terms+1)) {
			node = append(node, api.Term{Of: value, By: s.factor()})
		}
		f.Nodes = append(f.Nodes, node)
	}
	for range outs {
		if n := len(f.Inputs) + len(f.Nodes); n > 0 {
			f.Outs = append(f.Outs, s.below(n))
		}
	}
	return f
}

// must is for calls that answer no error.
func must[T any](made T, e api.Errno) T {
	if e != api.OK {
		panic(e)
	}
	return made
}

// node is one by the values and factors of its terms.
func node(pairs ...int) []api.Term {
	var terms []api.Term
	for i := 0; i < len(pairs); i += 2 {
		terms = append(terms, api.Term{Of: pairs[i], By: byte(pairs[i+1])})
	}
	return terms
}

func nodes(list ...[]api.Term) [][]api.Term { return list }

// counted are the numbers from one on to ahead of another.
func counted(from, to int) []int {
	var made []int
	for number := from; number < to; number++ {
		made = append(made, number)
	}
	return made
}

// example is the chapter's, the flow of 1 0 2 / 0 0 0.
func example() api.Flow {
	return api.Flow{Inputs: []int{0, 2}, Nodes: nodes(node(0, 1, 1, 2), nil), Outs: []int{2, 3}}
}

// chain has one input, and as many nodes as there may be: each so many times
// the value ahead of it.
func chain(input, factor int) api.Flow {
	f := api.Flow{Inputs: []int{input}, Outs: []int{api.MaxFlow}}
	for i := range api.MaxFlow {
		f.Nodes = append(f.Nodes, node(i, factor))
	}
	return f
}

// ladder has as many nodes as there may be, each of the three values ahead of
// it, so that there are far too many ways down to go each of them.
func ladder() api.Flow {
	f := api.Flow{Inputs: []int{0, 5, 63}, Outs: []int{api.MaxFlow + 2, 0, api.MaxFlow}}
	for i := range api.MaxFlow {
		f.Nodes = append(f.Nodes, node(i, 1, i+1, 1+i%255, i+2, 2))
	}
	return f
}

// dense has nodes of all values ahead of each.
func dense(inputs, count int) api.Flow {
	f := api.Flow{Inputs: counted(0, inputs), Outs: counted(inputs+count-min(count, 64), inputs+count)}
	for i := range count {
		var terms []api.Term
		for value := range inputs + i {
			terms = append(terms, api.Term{Of: value, By: byte(1 + (value*7+i)%255)})
		}
		f.Nodes = append(f.Nodes, terms)
	}
	return f
}

// kind is a flow, and what it is called.
type kind struct {
	name string
	f    api.Flow
}

// small are flows of few nodes that stand at edges.
func small() []kind {
	return []kind{
		{"nothing", api.Flow{}},
		{"the example", example()},
		{"inputs alone", api.Flow{Inputs: []int{3, 4}}},
		{"inputs that come out", api.Flow{Inputs: []int{1, 3}, Outs: []int{1, 0, 1}}},
		{"the first input", api.Flow{Inputs: []int{0}, Nodes: nodes(node(0, 255)), Outs: []int{1}}},
		{"the last input", api.Flow{Inputs: []int{63}, Nodes: nodes(node(0, 1)), Outs: []int{0, 1}}},
		{"the last input but one", api.Flow{Inputs: []int{62}, Nodes: nodes(node(0, 2)), Outs: []int{1}}},
		{"all inputs", api.Flow{Inputs: counted(0, 64), Outs: counted(0, 64)}},
		{"all inputs in one node", dense(64, 1)},
		{"a node without terms", api.Flow{Nodes: nodes(nil), Outs: []int{0}}},
		{"a node without terms, 64 times", api.Flow{Nodes: nodes(nil), Outs: make([]int, 64)}},
		{"nodes of nothing", api.Flow{Nodes: nodes(nil, node(0, 1), node(0, 2, 1, 3)), Outs: []int{2, 1, 0}}},
		{"nodes, but no outs", api.Flow{Inputs: []int{0}, Nodes: nodes(node(0, 2), node(1, 3))}},
		{"one that is not hung on", api.Flow{Inputs: []int{0, 2}, Nodes: nodes(node(0, 1), node(1, 3)), Outs: []int{2}}},
		{"the other one", api.Flow{Inputs: []int{0, 2}, Nodes: nodes(node(0, 1), node(1, 3)), Outs: []int{3, 1}}},
		{"what cancels out", api.Flow{Inputs: []int{1}, Nodes: nodes(node(0, 1), node(0, 1), node(1, 1, 2, 1)), Outs: []int{3}}},
		{"inverse factors", api.Flow{Inputs: []int{4}, Nodes: nodes(node(0, 2), node(1, 142)), Outs: []int{2, 1, 0}}},
		{"shared sums", api.Flow{Inputs: []int{0, 1}, Nodes: nodes(node(0, 1, 1, 2), node(2, 1), node(2, 3)), Outs: []int{3, 4}}},
		{"outs the other way round", api.Flow{Inputs: []int{0}, Nodes: nodes(node(0, 7), node(0, 3, 1, 9)), Outs: []int{2, 1, 0, 0, 1, 2}}},
		{"a term beyond two others", api.Flow{Inputs: []int{7, 8, 9}, Nodes: nodes(nil, node(0, 5, 3, 6), node(1, 1, 4, 255)), Outs: []int{5}}},
	}
}

// great are flows of as many nodes as there may be, or of many terms.
func great() []kind {
	return []kind{
		{"a chain of the last block", chain(63, 2)},
		{"a chain of the first block", chain(0, 1)},
		{"a ladder", ladder()},
		{"4096 nodes without terms", api.Flow{Nodes: make([][]api.Term, api.MaxFlow), Outs: counted(api.MaxFlow-64, api.MaxFlow)}},
		{"many nodes, few that are hung on", seeded(1).flow(64, api.MaxFlow, 3, 2)},
		{"many nodes, many outs", seeded(2).flow(20, 1000, 6, 64)},
		{"all terms", dense(64, 200)},
	}
}

// everyFlow does something to flows of all kinds that may be: those at edges,
// then any ones, from small to greater ones.
func everyFlow(do func(name string, f api.Flow)) {
	for _, k := range append(small(), great()...) {
		do(k.name, k.f)
	}
	anyFlow(do)
}

// anyFlow does it to any ones alone.
func anyFlow(do func(name string, f api.Flow)) {
	for seed := range 600 {
		s := seeded(seed)
		do(fmt.Sprint("seed ", seed), s.flow(s.below(6), s.below(2+seed/40), 1+s.below(5), s.below(6)))
	}
	for seed := range 60 {
		s := seeded(seed)
		do(fmt.Sprint("great seed ", seed), s.flow(s.below(64), s.below(60), s.below(40), s.below(65)))
	}
}

// least is how many blocks there must be at least.
func least(f api.Flow) int {
	if len(f.Inputs) == 0 {
		return 0
	}
	return f.Inputs[len(f.Inputs)-1] + 1
}

// blocks are so many of any bytes, all of this length.
func blocks(count, length int) [][]byte {
	s := seeded(count*1000 + length)
	made := make([][]byte, count)
	for i := range made {
		made[i] = s.list(length)
	}
	return made
}

// copied is a flow of the same numbers that shares nothing with it.
func copied(f api.Flow) api.Flow {
	made := api.Flow{Inputs: slices.Clone(f.Inputs), Nodes: slices.Clone(f.Nodes), Outs: slices.Clone(f.Outs)}
	for i := range made.Nodes {
		made.Nodes[i] = slices.Clone(made.Nodes[i])
	}
	return made
}

// sides are those of the tests' matrices: none, few, just as many as may be.
func sides() []int {
	return []int{0, 1, 2, 3, 8, 63, api.MaxSide}
}

// matrices are such of all pairs of sides: of any elements, of few that are not
// 0, of noughts, of ones, the identity as far as it goes, with rows and columns
// that are all 0.
func matrices() []api.Matrix {
	var made []api.Matrix
	s := seeded(7)
	for _, rows := range sides() {
		for _, cols := range sides() {
			for _, at := range []func(i, j int) byte{
				func(_, _ int) byte { return byte(s.below(256)) },
				func(_, _ int) byte { return byte(max(0, s.below(2560)-2304)) },
				func(_, _ int) byte { return 0 },
				func(_, _ int) byte { return 1 },
				func(i, j int) byte { return entry(identity(64), i, j) },
				func(i, j int) byte { return byte((i % 2) * (j % 2) * (1 + s.below(255))) },
				func(i, j int) byte { return byte((i/2%2 + j/3%2) / 2 * (1 + s.below(255))) },
			} {
				made = append(made, slow(rows, cols, at))
			}
		}
	}
	return made
}

// edges are numbers as great and as small as an int can be, and those beside
// what may be.
func edges() []int {
	return []int{math.MinInt, math.MinInt + 1, math.MinInt32, -4096, -64, -2, -1, 65, 66, 128, 4160, 4161, math.MaxInt32, 1 << 32, math.MaxInt - 1, math.MaxInt}
}

func sameBlocks(a, b [][]byte) bool {
	return slices.EqualFunc(a, b, bytes.Equal)
}

// The flows that the other tests go through are of all kinds, by what the models
// tell of them.
func TestFlowsOfAllKindsAreGoneThrough(t *testing.T) {
	found := map[string]int{}
	count := func(what string, holds bool) {
		if holds {
			found[what]++
		}
	}
	everyFlow(func(name string, f api.Flow) {
		if !slowMay(f) {
			t.Errorf("%s may not be", name)
		}
		hung, values := slowHung(f), len(f.Inputs)+len(f.Nodes)
		sums, products := slowCost(f)
		count("no inputs", len(f.Inputs) == 0)
		count("no nodes", len(f.Nodes) == 0)
		count("no outs", len(f.Outs) == 0)
		count("all hung on", len(hung) == values)
		count("not all hung on", len(hung) < values)
		count("sums", sums > 0)
		count("products", products > 0)
		count("an out twice", len(slices.Compact(slices.Sorted(slices.Values(f.Outs)))) < len(f.Outs))
		count("an input comes out", slices.ContainsFunc(f.Outs, func(out int) bool { return out < len(f.Inputs) }))
		count("a node without terms", slices.ContainsFunc(f.Nodes, func(terms []api.Term) bool { return len(terms) == 0 }))
		for i, terms := range f.Nodes {
			for _, term := range terms {
				count("a node of nodes", hung[len(f.Inputs)+i] && term.Of >= len(f.Inputs))
			}
		}
		for i := range f.Inputs {
			count("an input that is not hung on", !hung[i])
		}
	})
	for _, what := range []string{
		"no inputs", "no nodes", "no outs", "all hung on", "not all hung on", "sums", "products", "an out twice",
		"an input comes out", "a node without terms", "a node of nodes", "an input that is not hung on",
	} {
		if found[what] < 20 {
			t.Errorf("%s: of %d flows", what, found[what])
		}
	}
}
