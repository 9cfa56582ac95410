package share_test

import (
	"fmt"
	"math"
	"slices"

	"recoup/api"
)

// source tells numbers by a simple rule that differs from seed to seed.
type source struct {
	state uint32
}

func seeded(seed int) *source {
	return &source{uint32(seed)*2654435761 + 12345}
}

// below is a number from 0 to ahead of n.
func (s *source) below(n int) int {
	s.state = s.state*1664525 + 1013904223
	return int(s.state>>16) % n
}

// list is one of so many elements.
func (s *source) list(length int) []byte {
	made := make([]byte, length)
	for i := range made {
		made[i] = byte(s.below(256))
	}
	return made
}

func one[T any](s *source, list []T) T {
	return list[s.below(len(list))]
}

// rising are at most so many numbers from 0 to ahead of n.
func (s *source) rising(n, most int) []int {
	var made []int
	for range min(most, n) {
		made = append(made, s.below(n))
	}
	slices.Sort(made)
	return slices.Compact(made)
}

// flow is one of at most so many inputs, of so many nodes of at most so many
// terms with these factors, and of so many outs, if it has values.
func (s *source) flow(inputs, nodes, terms, outs int, factors ...byte) api.Flow {
	f := api.Flow{Inputs: s.rising(api.MaxSide, inputs)}
	for i := range nodes {
		var node []api.Term
		for _, value := range s.rising(len(f.Inputs)+i, s.below(terms+1)) {
			node = append(node, api.Term{Of: value, By: one(s, factors)})
		}
		f.Nodes = append(f.Nodes, node)
	}
	for range outs {
		if n := len(f.Inputs) + len(f.Nodes); n > 0 {
			f.Outs = append(f.Outs, s.below(n))
		}
	}
	return f
}

// multiples is a flow of which each node is such a sum of the first inputs as
// another one, times a factor, with some terms less, and nodes among the rest.
func (s *source) multiples(inputs, nodes, outs int) api.Flow {
	f := api.Flow{Inputs: s.rising(api.MaxSide, inputs)}
	base := s.list(api.MaxSide)
	for i := range nodes {
		var node []api.Term
		scale := byte(1 + s.below(255))
		for value := range len(f.Inputs) + i {
			if by := products[scale][base[value%api.MaxSide]]; by != 0 && s.below(4) > value/(1+len(f.Inputs)) {
				node = append(node, api.Term{Of: value, By: by})
			}
		}
		f.Nodes = append(f.Nodes, node)
	}
	for range outs {
		if n := len(f.Inputs) + len(f.Nodes); n > 0 {
			f.Outs = append(f.Outs, s.below(n))
		}
	}
	return f
}

// twoInputs is a flow of so many nodes, each of both inputs in few ratios.
func twoInputs(s *source, count int) api.Flow {
	f := api.Flow{Inputs: []int{5, 9}, Outs: []int{1, count + 1}}
	for range count {
		by, ratio := byte(1+s.below(255)), one(s, []byte{1, 2, 200})
		f.Nodes = append(f.Nodes, []api.Term{{Of: 0, By: by}, {Of: 1, By: products[by][ratio]}})
	}
	return f
}

// must is for calls that answer no error.
func must[T any](made T, e api.Errno) T {
	if e != api.OK {
		panic(e)
	}
	return made
}

// node is one by the values and factors of its terms.
func node(pairs ...int) []api.Term {
	var terms []api.Term
	for i := 0; i < len(pairs); i += 2 {
		terms = append(terms, api.Term{Of: pairs[i], By: byte(pairs[i+1])})
	}
	return terms
}

func nodes(list ...[]api.Term) [][]api.Term { return list }

// counted are the numbers from one on to ahead of another.
func counted(from, to int) []int {
	var made []int
	for number := from; number < to; number++ {
		made = append(made, number)
	}
	return made
}

// example is the chapter's.
func example() api.Flow {
	return api.Flow{Inputs: []int{0, 1}, Nodes: nodes(node(0, 1, 1, 2), node(0, 3, 1, 6)), Outs: []int{2, 3}}
}

// unlike is the chapter's, too: its two nodes have no pair of one ratio.
func unlike() api.Flow {
	return api.Flow{Inputs: []int{0, 1}, Nodes: nodes(node(0, 1, 1, 2), node(0, 1, 1, 3)), Outs: []int{2, 3}}
}

// empty are so many nodes without terms.
func empty(count int) [][]api.Term {
	return make([][]api.Term, count)
}

// wide has a node of so many terms for each of the lengths, all of the first
// values, which are nodes without terms: each so many times the node ahead of
// it. The last ones come out.
func wide(factor byte, lengths ...int) api.Flow {
	f := api.Flow{Nodes: empty(slices.Max(lengths))}
	by := byte(1)
	for _, length := range lengths {
		var terms []api.Term
		for value := range length {
			terms = append(terms, api.Term{Of: value, By: by})
		}
		f.Nodes = append(f.Nodes, terms)
		by = products[by][factor]
	}
	f.Outs = counted(len(f.Nodes)-min(len(lengths), 64), len(f.Nodes))
	return f
}

// among puts the nodes of a flow behind so many that have no terms.
func among(count int, f api.Flow) api.Flow {
	made := api.Flow{Inputs: f.Inputs, Nodes: empty(count)}
	moved := func(value int) int {
		if value < len(f.Inputs) {
			return value
		}
		return value + count
	}
	for _, terms := range f.Nodes {
		var node []api.Term
		for _, term := range terms {
			node = append(node, api.Term{Of: moved(term.Of), By: term.By})
		}
		made.Nodes = append(made.Nodes, node)
	}
	for _, out := range f.Outs {
		made.Outs = append(made.Outs, moved(out))
	}
	return made
}

// four has the inputs 0 to 3, these nodes, and lets all of them come out.
func four(list ...[]api.Term) api.Flow {
	return api.Flow{Inputs: counted(0, 4), Nodes: list, Outs: counted(4, 4+len(list))}
}

// kind is a flow, and what it is called.
type kind struct {
	name string
	f    api.Flow
}

// small are flows of few nodes that stand at edges.
func small() []kind {
	return []kind{
		{"nothing", api.Flow{}},
		{"the example", example()},
		{"the other one", unlike()},
		{"inputs alone", api.Flow{Inputs: []int{3, 4}}},
		{"inputs that come out", api.Flow{Inputs: []int{1, 3}, Outs: []int{1, 0, 1}}},
		{"nodes without terms", api.Flow{Nodes: empty(3), Outs: []int{2, 0}}},
		{"nodes of one term", four(node(0, 1), node(0, 1), node(1, 1), node(1, 2), nil)},
		{"one node of many terms", four(node(0, 1, 1, 1, 2, 1, 3, 1))},
		{"a pair in one node", four(node(0, 1, 1, 1), node(0, 1), node(1, 1))},
		{"no outs", api.Flow{Inputs: []int{0, 1}, Nodes: example().Nodes}},
		{"no inputs", api.Flow{Nodes: nodes(nil, nil, node(0, 5, 1, 7), node(0, 5, 1, 7)), Outs: []int{3, 2, 0}}},
		{"outs that are inputs", api.Flow{Inputs: []int{0, 1}, Nodes: example().Nodes, Outs: []int{1, 3, 0, 2, 1}}},
		{"the last inputs", api.Flow{Inputs: []int{62, 63}, Nodes: example().Nodes, Outs: []int{2, 3}}},
		{"the same sum", four(node(0, 1, 1, 1), node(0, 1, 1, 1))},
		{"the same sum, 5 times", four(node(0, 9, 1, 1), node(0, 9, 1, 1), node(0, 9, 1, 1), node(0, 9, 1, 1), node(0, 9, 1, 1))},
		{"the same sum of all", four(node(0, 1, 1, 2, 2, 3, 3, 4), node(0, 1, 1, 2, 2, 3, 3, 4))},
		{"a multiple of all", four(node(0, 1, 1, 2, 2, 3, 3, 4), node(0, 2, 1, 4, 2, 6, 3, 8))},
		{"two pairs apart", four(node(0, 1, 1, 1), node(2, 1, 3, 1), node(0, 1, 1, 1, 2, 1, 3, 1))},
		{"the later pair in more nodes", four(node(0, 1, 1, 1), node(0, 1, 1, 1, 2, 1), node(1, 1, 2, 1), node(1, 1, 2, 1))},
		{"two ratios of two values", four(node(0, 1, 1, 5), node(0, 1, 1, 4), node(0, 2, 1, 8), node(0, 3, 1, 15))},
		{"a greater ratio in more nodes", four(node(0, 1, 1, 1), node(0, 1, 1, 1), node(0, 1, 1, 9), node(0, 1, 1, 9), node(0, 1, 1, 9))},
		{"a pair of nodes", four(node(0, 1), node(1, 1), node(4, 1, 5, 1), node(4, 1, 5, 1, 6, 1))},
		{"the first node behind others", four(node(2, 9), nil, node(0, 2, 1, 2), node(5, 1), node(0, 1, 1, 1, 4, 3, 7, 7), node(6, 2, 8, 1))},
		{"nodes one upon the other", four(node(0, 1, 1, 1), node(0, 1, 1, 1, 4, 1), node(0, 1, 1, 1, 4, 1, 5, 1), node(0, 1, 1, 1, 4, 1, 5, 1, 6, 1))},
		{"a pair becomes part of one", four(node(0, 1, 1, 1, 2, 1), node(0, 1, 1, 1, 2, 1), node(0, 1, 1, 1))},
		{"what cancels out", four(node(0, 1, 1, 1), node(0, 1, 1, 1), node(4, 1, 5, 1), node(4, 1, 5, 1))},
	}
}

// great are flows of as many nodes, terms or outs as there may be, and of one
// more or less.
func great() []kind {
	many := func(count int) api.Flow { return among(count-2, example()) }
	return []kind{
		{"4094 nodes", many(api.MaxFlow - 2)},
		{"4095 nodes", many(api.MaxFlow - 1)},
		{"4096 nodes", many(api.MaxFlow)},
		{"4096 nodes without terms", api.Flow{Nodes: empty(api.MaxFlow), Outs: counted(0, 64)}},
		{"4095 nodes with two pairs", among(api.MaxFlow-1-4, four(node(0, 1, 1, 1), node(0, 1, 1, 1), node(2, 1, 3, 1), node(2, 1, 3, 1)))},
		{"513 terms in two nodes", wide(1, 256, 257)},
		{"512 terms in four nodes", wide(2, 128, 127, 129, 128)},
		{"513 terms in three nodes", wide(3, 171, 171, 171)},
		{"512 terms in one node", wide(1, 512)},
		{"513 terms in one node", wide(1, 513)},
		{"512 terms in 256 nodes", wide(7, slices.Repeat([]int{2}, 256)...)},
		{"64 outs", api.Flow{Inputs: []int{0, 1}, Nodes: example().Nodes, Outs: slices.Repeat([]int{3, 1, 2, 0}, 16)}},
	}
}

// everyFlow does something to flows of all kinds that may be: those at edges,
// then those of matrices, then any ones, from small to greater ones.
func everyFlow(do func(name string, f api.Flow)) {
	for _, k := range append(small(), great()...) {
		do(k.name, k.f)
	}
	for i, m := range matrices() {
		do(fmt.Sprint("matrix ", i), slowOf(m))
	}
	anyFlow(do)
}

// anyFlow does it to any ones alone.
func anyFlow(do func(name string, f api.Flow)) {
	few := [][]byte{{1}, {1, 2}, {1, 2, 4, 8}, {3, 5, 15}}
	for seed := range 800 {
		s := seeded(seed)
		do(fmt.Sprint("seed ", seed), s.flow(s.below(6), s.below(2+seed/40), 1+s.below(5), s.below(6), one(s, few)...))
		do(fmt.Sprint("multiples ", seed), s.multiples(s.below(6), s.below(7), s.below(6)))
	}
	for seed := range 200 {
		s := seeded(seed)
		do(fmt.Sprint("two inputs ", seed), twoInputs(s, 4+s.below(8)))
	}
	for seed := range 60 {
		s := seeded(seed)
		do(fmt.Sprint("great seed ", seed), s.flow(s.below(64), s.below(60), s.below(20), s.below(65), one(s, few)...))
		do(fmt.Sprint("great multiples ", seed), s.multiples(s.below(40), s.below(12), s.below(65)))
	}
}

// copied is a flow of the same numbers that shares nothing with it.
func copied(f api.Flow) api.Flow {
	made := api.Flow{Inputs: slices.Clone(f.Inputs), Nodes: slices.Clone(f.Nodes), Outs: slices.Clone(f.Outs)}
	for i := range made.Nodes {
		made.Nodes[i] = slices.Clone(made.Nodes[i])
	}
	return made
}

// sides are those of the tests' matrices: none, few, just as many as may be.
func sides() []int {
	return []int{0, 1, 2, 3, 8, api.MaxSide}
}

// matrices are such of all pairs of sides: of any elements, of few that are not
// 0, of noughts, of ones, the identity as far as it goes, with rows and columns
// that are all 0.
func matrices() []api.Matrix {
	var made []api.Matrix
	s := seeded(7)
	for _, rows := range sides() {
		for _, cols := range sides() {
			for _, at := range []func(i, j int) byte{
				func(_, _ int) byte { return byte(s.below(256)) },
				func(_, _ int) byte { return byte(max(0, s.below(2560)-2304)) },
				func(_, _ int) byte { return byte(s.below(2)) },
				func(_, _ int) byte { return byte(max(0, s.below(40)-37)) },
				func(i, j int) byte { return products[i+1][j+1] },
				func(_, _ int) byte { return 0 },
				func(_, _ int) byte { return 1 },
				func(i, j int) byte { return entry(identity(64), i, j) },
				func(i, j int) byte { return byte((i % 2) * (j % 2) * (1 + s.below(255))) },
				func(i, j int) byte { return byte((i/2%2 + j/3%2) / 2 * (1 + s.below(255))) },
			} {
				made = append(made, slow(rows, cols, at))
			}
		}
	}
	return made
}

// edges are numbers as great and as small as an int can be, and those beside
// what may be.
func edges() []int {
	return []int{math.MinInt, math.MinInt + 1, math.MinInt32, -4096, -64, -2, -1, 65, 66, 128, 4160, 4161, math.MaxInt32, 1 << 32, math.MaxInt - 1, math.MaxInt}
}

// least is how many blocks there must be at least.
func least(f api.Flow) int {
	if len(f.Inputs) == 0 {
		return 0
	}
	return f.Inputs[len(f.Inputs)-1] + 1
}

// blocks are so many of any bytes, all of this length.
func blocks(count, length int) [][]byte {
	s := seeded(count*1000 + length)
	made := make([][]byte, count)
	for i := range made {
		made[i] = s.list(length)
	}
	return made
}
