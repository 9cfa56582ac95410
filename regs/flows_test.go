package regs_test

import (
	"fmt"
	"math"
	"slices"

	"recoup/api"
	"recoup/share"
)

// source tells numbers by a simple rule that differs from seed to seed.
type source struct {
	state uint32
}

func seeded(seed int) *source {
	return &source{uint32(seed)*2654435761 + 12345}
}

// below is a number from 0 to ahead of n.
func (s *source) below(n int) int {
	s.state = s.state*1664525 + 1013904223
	return int(s.state>>16) % n
}

// list is one of so many elements.
func (s *source) list(length int) []byte {
	made := make([]byte, length)
	for i := range made {
		made[i] = byte(s.below(256))
	}
	return made
}

func one[T any](s *source, list []T) T {
	return list[s.below(len(list))]
}

// rising are at most so many numbers from 0 to ahead of n.
func (s *source) rising(n, most int) []int {
	var made []int
	for range min(most, n) {
		made = append(made, s.below(n))
	}
	slices.Sort(made)
	return slices.Compact(made)
}

// factor is 1 as often as not.
func (s *source) factor() byte {
	return one(s, []byte{1, byte(1 + s.below(255))})
}

// flow is one of at most so many inputs, of so many nodes of at most so many
// terms, and of so many outs, if it has values.
func (s *source) flow(inputs, nodes, terms, outs int) api.Flow {
	f := api.Flow{Inputs: s.rising(api.MaxSide, inputs)}
	for i := range nodes {
		var node []api.Term
		for _, value := range s.rising(len(f.Inputs)+i, s.below(terms+1)) {
			node = append(node, api.Term{Of: value, By: s.factor()})
		}
		f.Nodes = append(f.Nodes, node)
	}
	for range outs {
		if n := len(f.Inputs) + len(f.Nodes); n > 0 {
			f.Outs = append(f.Outs, s.below(n))
		}
	}
	return f
}

// must is for calls that answer no error.
func must[T any](made T, e api.Errno) T {
	if e != api.OK {
		panic(e)
	}
	return made
}

// node is one by the values and factors of its terms.
func node(pairs ...int) []api.Term {
	var terms []api.Term
	for i := 0; i < len(pairs); i += 2 {
		terms = append(terms, api.Term{Of: pairs[i], By: byte(pairs[i+1])})
	}
	return terms
}

func nodes(list ...[]api.Term) [][]api.Term { return list }

// counted are the numbers from one on to ahead of another.
func counted(from, to int) []int {
	var made []int
	for number := from; number < to; number++ {
		made = append(made, number)
	}
	return made
}

// example is the chapter's.
func example() api.Flow {
	return api.Flow{Inputs: []int{0, 1}, Nodes: nodes(node(0, 1, 1, 2), node(0, 3)), Outs: []int{2, 3}}
}

// four has the inputs 0 to 3, these nodes, and lets all of them come out.
func four(list ...[]api.Term) api.Flow {
	return api.Flow{Inputs: counted(0, 4), Nodes: list, Outs: counted(4, 4+len(list))}
}

// gathered has so many inputs, so many nodes, each of the input 0, if there is
// one, and a last node of all values.
func gathered(inputs, count int) api.Flow {
	f := api.Flow{Inputs: counted(0, inputs), Nodes: make([][]api.Term, count), Outs: []int{inputs + count}}
	var all []api.Term
	for value := range inputs + count {
		all = append(all, api.Term{Of: value, By: byte(1 + value%255)})
	}
	for i := range count {
		if inputs > 0 {
			f.Nodes[i] = node(0, 1+i%255)
		}
	}
	f.Nodes = append(f.Nodes, all)
	return f
}

// windowed has one input and as many nodes as there may be, each of so many
// values ahead of it, as far as there are; so many nodes, at the end, of one
// value more. The last one comes out so many times.
func windowed(window, wider, outs int) api.Flow {
	f := api.Flow{Inputs: []int{7}, Outs: slices.Repeat([]int{api.MaxFlow}, outs)}
	for i := range api.MaxFlow {
		size := window
		if i >= api.MaxFlow-wider {
			size++
		}
		var terms []api.Term
		for value := max(0, i+1-size); value <= i; value++ {
			terms = append(terms, api.Term{Of: value, By: byte(1 + (i+value)%255)})
		}
		f.Nodes = append(f.Nodes, terms)
	}
	return f
}

// ladder has as many nodes as there may be, each of the three values ahead of
// it.
func ladder() api.Flow {
	f := api.Flow{Inputs: []int{0, 5, 63}, Outs: []int{api.MaxFlow + 2, 0, api.MaxFlow}}
	for i := range api.MaxFlow {
		f.Nodes = append(f.Nodes, node(i, 1, i+1, 1+i%255, i+2, 2))
	}
	return f
}

// dense has nodes of all values ahead of each.
func dense(inputs, count int) api.Flow {
	f := api.Flow{Inputs: counted(0, inputs), Outs: counted(inputs+count-min(count, 64), inputs+count)}
	for i := range count {
		var terms []api.Term
		for value := range inputs + i {
			terms = append(terms, api.Term{Of: value, By: byte(1 + (value*7+i)%255)})
		}
		f.Nodes = append(f.Nodes, terms)
	}
	return f
}

// kind is a flow, and what it is called.
type kind struct {
	name string
	f    api.Flow
}

// small are flows of few nodes that stand at edges.
func small() []kind {
	return []kind{
		{"nothing", api.Flow{}},
		{"the example", example()},
		{"inputs alone", api.Flow{Inputs: []int{3, 4}}},
		{"inputs that come out", api.Flow{Inputs: []int{1, 3}, Outs: []int{1, 0, 1}}},
		{"all inputs come out", api.Flow{Inputs: counted(0, 64), Outs: counted(0, 64)}},
		{"all inputs, the last one first", api.Flow{Inputs: counted(0, 64), Outs: []int{63, 0, 62, 1}}},
		{"the first input", api.Flow{Inputs: []int{0}, Nodes: nodes(node(0, 255)), Outs: []int{1}}},
		{"the last input", api.Flow{Inputs: []int{63}, Nodes: nodes(node(0, 1)), Outs: []int{0, 1}}},
		{"no inputs", api.Flow{Nodes: nodes(nil, node(0, 1), node(0, 2, 1, 3)), Outs: []int{2, 1, 0}}},
		{"no outs", api.Flow{Inputs: []int{0}, Nodes: nodes(node(0, 2), node(1, 3))}},
		{"nodes without terms", api.Flow{Nodes: make([][]api.Term, 5), Outs: []int{4, 0, 2}}},
		{"a node without terms, 64 times", api.Flow{Nodes: nodes(nil), Outs: make([]int, 64)}},
		{"a node without terms among others", four(node(0, 1), nil, node(1, 2, 2, 3), nil)},
		{"one upon the other", api.Flow{Inputs: []int{9}, Nodes: nodes(node(0, 2), node(1, 3), node(2, 4), node(3, 5)), Outs: []int{4}}},
		{"one upon all others", api.Flow{Inputs: []int{9}, Nodes: nodes(node(0, 2), node(0, 1, 1, 3), node(0, 1, 1, 1, 2, 4), node(0, 1, 1, 1, 2, 1, 3, 5)), Outs: []int{4}}},
		{"values that nobody uses", api.Flow{Inputs: []int{0, 2, 4}, Nodes: nodes(node(0, 1), node(2, 3), node(1, 1, 4, 7)), Outs: []int{5}}},
		{"nodes that nobody uses use others last", api.Flow{Inputs: []int{0, 2}, Nodes: nodes(node(0, 1, 1, 1), node(0, 5), node(1, 9, 2, 8), node(0, 3)), Outs: []int{2, 5}}},
		{"the first is used last", api.Flow{Inputs: []int{5, 6, 7}, Nodes: nodes(node(1, 1), node(2, 1), node(3, 1, 4, 1), node(0, 1, 5, 1)), Outs: []int{6}}},
		{"values twice and once more", api.Flow{Inputs: []int{1, 2}, Nodes: nodes(node(0, 3, 1, 4), node(1, 2)), Outs: []int{2, 3, 2, 2, 3}}},
		{"outs that are inputs, loaded and not", api.Flow{Inputs: []int{1, 4, 8}, Nodes: nodes(node(0, 1), node(3, 2)), Outs: []int{2, 4, 0, 1, 2}}},
		{"inputs for several nodes and the end", api.Flow{Inputs: []int{1, 4}, Nodes: nodes(node(0, 1, 1, 2), node(0, 1, 1, 3), node(1, 4), node(0, 5)), Outs: []int{0, 5, 1, 2, 3, 4}}},
		{"an input of one node ahead of the end's", four(node(0, 2), node(1, 3), node(2, 4), node(3, 5))},
		{"less and less is held", four(node(0, 1, 1, 1, 2, 1, 3, 1), node(1, 1, 2, 1, 3, 1), node(2, 1, 3, 1), node(3, 1))},
		{"more and more is held", four(node(0, 1), node(0, 1, 1, 1), node(0, 1, 1, 1, 2, 1), node(0, 1, 1, 1, 2, 1, 3, 1))},
		{"a gap is filled", four(node(0, 1, 1, 1, 2, 1), node(0, 1, 2, 1), node(0, 1, 2, 1, 3, 1), node(0, 1, 3, 2))},
		{"two gaps are filled", four(node(0, 1, 1, 1, 2, 1, 3, 9), node(1, 1, 3, 1), node(5, 2), node(1, 1, 3, 2, 6, 3))},
		{"what cancels out", api.Flow{Inputs: []int{1}, Nodes: nodes(node(0, 1), node(0, 1), node(1, 1, 2, 1)), Outs: []int{3}}},
	}
}

// great are flows of as many registers, steps, nodes or terms as there may be,
// and of one more or less.
func great() []kind {
	return []kind{
		{"255 registers", gathered(0, api.MaxRegs-2)},
		{"256 registers", gathered(0, api.MaxRegs-1)},
		{"257 registers", gathered(0, api.MaxRegs)},
		{"256 registers, 64 of inputs", gathered(64, api.MaxRegs-64-1)},
		{"257 registers, 64 of inputs", gathered(64, api.MaxRegs-64)},
		{"318 registers, the last ones of inputs", gathered(64, api.MaxRegs-2)},
		{"4096 registers", gathered(0, api.MaxFlow-1)},
		{"255 registers and more nodes", dense(64, 191)},
		{"256 registers and more nodes", dense(64, 192)},
		{"257 registers and more nodes", dense(64, 193)},
		{"65535 steps", windowed(15, 40, 63)},
		{"65536 steps", windowed(15, 40, 64)},
		{"65537 steps", windowed(15, 41, 64)},
		{"65537 steps, less outs", windowed(15, 104, 1)},
		{"65536 steps, less outs", windowed(15, 103, 1)},
		{"many steps more", windowed(100, 0, 1)},
		{"too many of both", windowed(300, 0, 1)},
		{"a ladder", ladder()},
		{"4096 nodes without terms", api.Flow{Nodes: make([][]api.Term, api.MaxFlow), Outs: counted(api.MaxFlow-64, api.MaxFlow)}},
		{"4096 nodes that nobody uses", api.Flow{Inputs: []int{1}, Nodes: make([][]api.Term, api.MaxFlow), Outs: []int{0}}},
		{"many nodes, few that are hung on", seeded(1).flow(64, api.MaxFlow, 3, 2)},
		{"many nodes, many outs", seeded(2).flow(20, 1000, 6, 64)},
	}
}

// everyFlow does something to flows of all kinds that may be: those at edges,
// then those of matrices, then any ones, from small to greater ones.
func everyFlow(do func(name string, f api.Flow)) {
	for _, k := range append(small(), great()...) {
		do(k.name, k.f)
	}
	for i, m := range matrices() {
		f := slowOf(m)
		do(fmt.Sprint("matrix ", i), f)
		do(fmt.Sprint("shared ", i), must(share.Share(f)))
	}
	anyFlow(do)
}

// anyFlow does it to any ones alone.
func anyFlow(do func(name string, f api.Flow)) {
	for seed := range 1200 {
		s := seeded(seed)
		do(fmt.Sprint("seed ", seed), s.flow(s.below(6), s.below(2+seed/60), 1+s.below(5), s.below(6)))
	}
	for seed := range 80 {
		s := seeded(seed)
		do(fmt.Sprint("great seed ", seed), s.flow(s.below(64), s.below(60), s.below(40), s.below(65)))
		do(fmt.Sprint("shared seed ", seed), must(share.Share(s.flow(1+s.below(20), 1+s.below(20), s.below(20), 1+s.below(20)))))
	}
}

// copied is a flow of the same numbers that shares nothing with it.
func copied(f api.Flow) api.Flow {
	made := api.Flow{Inputs: slices.Clone(f.Inputs), Nodes: slices.Clone(f.Nodes), Outs: slices.Clone(f.Outs)}
	for i := range made.Nodes {
		made.Nodes[i] = slices.Clone(made.Nodes[i])
	}
	return made
}

// matrices are such of all pairs of sides: of any elements, of few that are not
// 0, of products, of noughts, the identity as far as it goes, with rows and
// columns that are all 0.
func matrices() []api.Matrix {
	var made []api.Matrix
	s := seeded(7)
	sides := []int{0, 1, 2, 3, 8, 20, api.MaxSide}
	for _, rows := range sides {
		for _, cols := range sides {
			for _, at := range []func(i, j int) byte{
				func(_, _ int) byte { return byte(s.below(256)) },
				func(_, _ int) byte { return byte(max(0, s.below(2560)-2304)) },
				func(_, _ int) byte { return byte(s.below(2)) },
				func(i, j int) byte { return products[i+1][j+1] },
				func(_, _ int) byte { return 0 },
				func(i, j int) byte { return entry(identity(64), i, j) },
				func(i, j int) byte { return byte((i/2%2 + j/3%2) / 2 * (1 + s.below(255))) },
			} {
				made = append(made, slow(rows, cols, at))
			}
		}
	}
	return made
}

// edges are numbers as great and as small as an int can be, and those beside
// what may be.
func edges() []int {
	return []int{math.MinInt, math.MinInt + 1, math.MinInt32, -4096, -256, -64, -2, -1, 65, 128, 255, 256, 257, 4160, 4161, 65536, math.MaxInt32, 1 << 32, 1<<32 + 1, math.MaxInt - 1, math.MaxInt}
}

// least is how many blocks there must be at least.
func least(f api.Flow) int {
	if len(f.Inputs) == 0 {
		return 0
	}
	return f.Inputs[len(f.Inputs)-1] + 1
}

// blocks are so many of any bytes, all of this length.
func blocks(count, length int) [][]byte {
	s := seeded(count*1000 + length)
	made := make([][]byte, count)
	for i := range made {
		made[i] = s.list(length)
	}
	return made
}
