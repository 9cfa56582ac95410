package regs_test

import (
	"fmt"
	"math"
	"slices"
	"testing"

	"recoup/api"
	"recoup/regs"
)

// mayNotBe are flows that may not be, each by one thing alone.
func mayNotBe() []api.Flow {
	var made []api.Flow
	turned := func(turn func(f *api.Flow)) {
		f := copied(api.Flow{
			Inputs: []int{2, 5, 6},
			Nodes:  nodes(node(0, 1, 2, 3), nil, node(1, 1, 3, 2, 4, 9), node(0, 1, 2, 3)),
			Outs:   []int{5, 0, 3},
		})
		turn(&f)
		made = append(made, f)
	}
	for _, n := range append(edges(), 64) {
		for i := range 3 {
			turned(func(f *api.Flow) { f.Inputs[i] = n })
			turned(func(f *api.Flow) { f.Outs[i] = n })
			turned(func(f *api.Flow) { f.Nodes[2][i].Of = n })
		}
	}
	turned(func(f *api.Flow) { f.Inputs[1] = 2 })
	turned(func(f *api.Flow) { slices.Reverse(f.Inputs) })
	turned(func(f *api.Flow) { f.Nodes[0][1].By = 0 })
	turned(func(f *api.Flow) { f.Nodes[3][0].By = 0 })
	turned(func(f *api.Flow) { f.Nodes[0][1].Of = 3 })
	turned(func(f *api.Flow) { f.Nodes[1] = node(4, 1) })
	turned(func(f *api.Flow) { f.Nodes[1] = node(5, 1) })
	turned(func(f *api.Flow) { slices.Reverse(f.Nodes[2]) })
	turned(func(f *api.Flow) { f.Nodes[2][1].Of = 1 })
	turned(func(f *api.Flow) { f.Outs[1] = 7 })
	turned(func(f *api.Flow) { f.Outs[1] = -1 })
	turned(func(f *api.Flow) { f.Outs = make([]int, 65) })
	turned(func(f *api.Flow) { f.Nodes = append(f.Nodes, make([][]api.Term, api.MaxFlow-3)...) })
	turned(func(f *api.Flow) { f.Nodes[3][0].By, f.Outs = 0, nil })
	tooMuch := gathered(0, 300)
	return append(made,
		api.Flow{Inputs: []int{0}, Nodes: nodes(node(0, 0)), Outs: []int{1}},
		api.Flow{Outs: []int{0}},
		api.Flow{Nodes: nodes(node(0, 1)), Outs: []int{0}},
		api.Flow{Inputs: []int{64}},
		api.Flow{Inputs: []int{math.MinInt, math.MaxInt}},
		api.Flow{Inputs: counted(0, 1000)},
		api.Flow{Nodes: nodes(node(math.MinInt, 1), node(math.MaxInt, 1))},
		api.Flow{Nodes: append(tooMuch.Nodes, node(0, 0)), Outs: tooMuch.Outs},
		api.Flow{Nodes: make([][]api.Term, api.MaxFlow+1)},
		api.Flow{Nodes: make([][]api.Term, api.MaxFlow), Outs: []int{api.MaxFlow}})
}

// isRefused tells where a flow that may not be is not refused by both calls, or
// where something stands beside an error.
func isRefused(t *testing.T, f api.Flow) {
	t.Helper()
	if list, e := regs.Last(f); len(list) != 0 || e != api.ErrArg {
		t.Errorf("%.300s: Last = %v, %v", written(f), list, e)
	}
	giveFails(t, "may not be", f, api.ErrArg)
}

func TestFlowsThatMayNotBeAreRefused(t *testing.T) {
	for _, f := range mayNotBe() {
		if slowMay(f) {
			t.Errorf("%.300s may be", written(f))
		}
		isRefused(t, f)
	}
}

// cannot are programs of which a step can't be done over two blocks, each by one
// thing alone: those that end as they began, with all their places out, but for
// it.
func cannot() []api.Program {
	base := api.Program{Steps: steps("load 0 0; load 1 1; clear 2; mac 2 0 1; mac 2 1 2; out 0 2; out 1 0"), Regs: 5, Outs: 2, Reads: 3}
	var made []api.Program
	turned := func(turn func(p *api.Program)) {
		p := copiedProgram(base)
		turn(&p)
		made = append(made, p)
	}
	for i, step := range base.Steps {
		for _, n := range append(edges(), 5, 6, 64) {
			turned(func(p *api.Program) { p.Steps[i].D = n })
			if step.Kind != api.XClear {
				turned(func(p *api.Program) { p.Steps[i].S = n })
			}
			if kind := api.StepKind(n); kind == 0 || kind > 4 {
				turned(func(p *api.Program) { p.Steps[i].Kind = kind })
			}
		}
		for _, kind := range []api.StepKind{0, 5, 255} {
			turned(func(p *api.Program) { p.Steps = slices.Insert(p.Steps, i, api.Step{Kind: kind}) })
		}
		for _, told := range []string{"mac 3 0 1", "mac 0 3 1", "mac 3 3 1", "out 0 3", "mac 3 3 0", "mac 4 0 1", "out 2 0", "load 3 2", "out -1 0"} {
			turned(func(p *api.Program) { p.Steps = slices.Insert(p.Steps, i, steps(told)[0]) })
		}
	}
	for _, told := range []string{"out 0 0", "out 1 1", "out 2 0", "mac 0 3 1", "mac 3 0 1", "clear 5", "load 5 0", "load 0 -1"} {
		turned(func(p *api.Program) { p.Steps = append(p.Steps, steps(told)[0]) })
	}
	for _, n := range append(edges(), 257, 65) {
		if n < 0 || n > 256 {
			turned(func(p *api.Program) { p.Regs = n })
		}
		turned(func(p *api.Program) { p.Outs = n })
	}
	for n := range 3 {
		turned(func(p *api.Program) { p.Regs = n })
	}
	for _, n := range []int{0, 1, 3, 4, 63, 64} {
		turned(func(p *api.Program) { p.Outs = n })
	}
	turned(func(p *api.Program) { p.Steps = p.Steps[:6] })
	turned(func(p *api.Program) { p.Steps = nil })
	turned(func(p *api.Program) { p.Steps = append(p.Steps[:5:5], p.Steps[6]) })
	turned(func(p *api.Program) { p.Steps = p.Steps[1:] })
	turned(func(p *api.Program) { p.Steps = slices.Delete(p.Steps, 2, 3) })
	turned(func(p *api.Program) { slices.Reverse(p.Steps) })
	turned(func(p *api.Program) { p.Steps = slices.Repeat(p.Steps, 2) })
	return made
}

func TestStepsThatCanNotBeDone(t *testing.T) {
	for _, p := range cannot() {
		for _, handed := range [][][]byte{blocks(2, 3), {nil, nil}, {{}, nil}} {
			if slowCan(p, 2) {
				t.Errorf("%.300s can be done", told(p))
			}
			runFails(t, "can't be done", p, handed, api.ErrArg)
		}
	}
}

func TestBlocksThatAreNotThere(t *testing.T) {
	p := api.Program{Steps: steps("load 0 2; out 0 0"), Regs: 1, Outs: 1}
	for count := range 3 {
		runFails(t, "too few", p, blocks(count, 3), api.ErrArg)
		runFails(t, "too few, without bytes", p, make([][]byte, count), api.ErrArg)
	}
	runIs(t, "just enough", p, [][]byte{{1}, {2}, {3}}, [][]byte{{3}})
}

// ErrShape is told ahead of all others; blocks that are not loaded count, too.
func TestBlocksOfTwoLengths(t *testing.T) {
	lists := [][][]byte{
		{{1}, nil}, {nil, {1}}, {{1, 2}, {3}}, {{1}, {2}, {3, 4}}, {{1, 2}, {3}, {4, 5}}, {nil, nil, nil, {1}},
		append(blocks(100, 3), nil), append(blocks(1, 4), blocks(99, 3)...),
	}
	for _, handed := range lists {
		for _, p := range append(cannot(), api.Program{}, api.Program{Regs: 257}, full(65537), all(256, 64),
			api.Program{Steps: steps("load 0 0; out 0 0"), Regs: 1, Outs: 1}) {
			runFails(t, "two lengths", p, handed, api.ErrShape)
		}
	}
	everyProgram(func(name string, p api.Program, handed [][]byte) {
		if len(handed) > 0 {
			runFails(t, name, p, append(slices.Clone(handed), make([]byte, len(handed[0])+1)), api.ErrShape)
		}
	})
}

// change makes one thing of a flow another one.
func (s *source) change(f *api.Flow) {
	numbers := append(edges(), counted(-1, 12)...)
	list := one(s, []*[]int{&f.Inputs, &f.Outs})
	switch s.below(8) {
	case 0:
		*list = append(*list, one(s, numbers))
	case 1:
		if len(*list) > 0 {
			(*list)[s.below(len(*list))] = one(s, numbers)
		}
	case 2:
		*list = (*list)[:max(0, len(*list)-1)]
	case 3:
		f.Nodes = append(f.Nodes, node(one(s, numbers), s.below(256)))
	case 4:
		f.Nodes = f.Nodes[:max(0, len(f.Nodes)-1)]
	default:
		if len(f.Nodes) == 0 {
			return
		}
		terms := &f.Nodes[s.below(len(f.Nodes))]
		*terms = append(*terms, api.Term{Of: one(s, numbers), By: byte(1 + s.below(255))})
		(*terms)[s.below(len(*terms))].By = byte(s.below(256))
		if s.below(2) > 0 {
			(*terms)[s.below(len(*terms))].Of = one(s, numbers)
		}
	}
}

// Any flow at all is answered as the document says.
func TestAnyFlowAtAll(t *testing.T) {
	may, not := 0, 0
	for seed := range 8000 {
		s := seeded(seed)
		f := s.flow(1+s.below(3), s.below(9), 5, s.below(5))
		for range s.below(3) {
			s.change(&f)
		}
		if !slowMay(f) {
			not++
			isRefused(t, f)
			continue
		}
		may++
		lastIs(t, "anything", f, slowLast(f))
		giveIs(t, "anything", f, slowGive(f))
	}
	if may < 2000 || not < 2000 {
		t.Errorf("%d of the flows may be, %d may not", may, not)
	}
}

// changeProgram makes one thing of a program another one.
func (s *source) changeProgram(p *api.Program) {
	numbers := append(edges(), counted(-1, 8)...)
	switch s.below(10) {
	case 0:
		p.Regs = one(s, numbers)
	case 1:
		p.Outs = one(s, numbers)
	case 2:
		p.Steps = p.Steps[:s.below(len(p.Steps)+1)]
	case 3:
		p.Steps = append(p.Steps, api.Step{Kind: api.StepKind(s.below(6)), D: s.below(4), S: s.below(4), C: byte(s.below(256))})
	default:
		if len(p.Steps) == 0 {
			return
		}
		step := &p.Steps[s.below(len(p.Steps))]
		switch s.below(4) {
		case 0:
			step.Kind = one(s, []api.StepKind{0, 1, 2, 3, 4, 5, 255})
		case 1:
			step.D = one(s, numbers)
		case 2:
			step.S = one(s, numbers)
		default:
			step.C = byte(s.below(256))
		}
	}
}

// So is any program at all, over any blocks.
func TestAnyProgramAtAll(t *testing.T) {
	answers := map[api.Errno]int{}
	for seed := range 12000 {
		s := seeded(seed)
		count := s.below(4)
		p := s.program(1+s.below(4), s.below(4), count, s.below(10))
		for range s.below(4) {
			s.changeProgram(&p)
		}
		handed := blocks(count, s.below(3))
		if s.below(8) == 0 {
			handed = append(handed, s.list(s.below(3)))
		}
		want, e := slowDone(p, handed)
		answers[e]++
		if name := fmt.Sprint("anything ", seed); e == api.OK {
			runIs(t, name, p, handed, want)
		} else {
			runFails(t, name, p, handed, e)
		}
	}
	for _, e := range []api.Errno{api.OK, api.ErrArg, api.ErrShape} {
		if answers[e] < 500 {
			t.Errorf("of %d programs the answer is %v", answers[e], e)
		}
	}
}
