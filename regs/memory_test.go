package regs_test

import (
	"fmt"
	"slices"
	"testing"

	"recoup/api"
	"recoup/regs"
)

// behind fills the room behind the end of a list that is handed in.
const behind = 0xa5

// roomy is a list of the same elements with room behind its end.
func roomy[T any](list []T, fill T) []T {
	room := slices.Repeat([]T{fill}, len(list)+70)
	copy(room, list)
	return room[:len(list)]
}

// roomyFlow is a flow whose lists have room behind their ends.
func roomyFlow(f api.Flow) api.Flow {
	made := api.Flow{Inputs: roomy(f.Inputs, behind), Outs: roomy(f.Outs, behind), Nodes: roomy(f.Nodes, node(behind, behind))}
	for i, terms := range f.Nodes {
		made.Nodes[i] = roomy(terms, api.Term{Of: behind, By: behind})
	}
	return made
}

func roomyProgram(p api.Program) api.Program {
	p.Steps = roomy(p.Steps, api.Step{Kind: behind, D: behind, S: behind, C: behind})
	return p
}

func roomyBlocks(list [][]byte) [][]byte {
	made := roomy(list, []byte{behind})
	for i, block := range list {
		made[i] = roomy(block, behind)
	}
	return made
}

// whole is all that a list's room has.
func whole[T any](list []T) []T {
	return list[:cap(list)]
}

// heldFlow is what a flow's lists have, the room behind their ends too.
func heldFlow(f api.Flow) string {
	var all [][]api.Term
	for _, terms := range whole(f.Nodes) {
		all = append(all, whole(terms))
	}
	return fmt.Sprint(whole(f.Inputs), len(f.Nodes), all, whole(f.Outs))
}

func heldProgram(p api.Program) string {
	return fmt.Sprint(len(p.Steps), whole(p.Steps), p.Regs, p.Outs, p.Reads)
}

func heldBlocks(list [][]byte) string {
	var all [][]byte
	for _, block := range whole(list) {
		all = append(all, whole(block))
	}
	return fmt.Sprint(len(list), all)
}

// shownFlow is what all calls answer of a flow, as a text.
func shownFlow(f api.Flow) string {
	last, e := regs.Last(f)
	p, e1 := regs.Give(f)
	return fmt.Sprintln(last, e, told(p), e1)
}

// shownProgram is what all calls answer of a program and blocks, as a text.
func shownProgram(p api.Program, handed [][]byte) string {
	outs, e := regs.Run(p, handed)
	return fmt.Sprintln(outs, e, regs.Same(p, p), regs.Same(p, api.Program{}), regs.Same(api.Program{}, p))
}

// spoil writes over a list, the room behind its end too.
func spoil[T any](list []T, by T) {
	for i := range whole(list) {
		whole(list)[i] = by
	}
}

func spoilFlow(f api.Flow) {
	for _, terms := range f.Nodes {
		spoil(terms, api.Term{Of: 7777, By: 77})
	}
	spoil(f.Inputs, 7777)
	spoil(f.Nodes, node(8888, 88))
	spoil(f.Outs, 7777)
}

// someFlows are flows of all kinds, such that calls refuse among them.
func someFlows() []api.Flow {
	made := append(mayNotBe(), gathered(3, 300), dense(64, 100), ladder())
	for _, k := range small() {
		made = append(made, k.f)
	}
	for seed := range 100 {
		made = append(made, seeded(seed).flow(5, 6, 4, 5))
	}
	return made
}

// Rule 5: what is handed in stays as it is, the room behind its end too, also
// where a call fails; that room is of no moment, and nothing is kept.
func TestFlowsThatAreHandedInStay(t *testing.T) {
	for _, f := range someFlows() {
		room := roomyFlow(f)
		want := heldFlow(room)
		for _, call := range []func(){func() { regs.Last(room) }, func() { regs.Give(room) }} {
			if call(); heldFlow(room) != want {
				t.Fatalf("what is handed in is changed: %.300s", written(f))
			}
		}
		if told, other := shownFlow(room), shownFlow(f); other != told {
			t.Errorf("%.300s, without room behind %.300s", told, other)
		}
	}
}

func TestProgramsAndBlocksThatAreHandedInStay(t *testing.T) {
	look := func(p api.Program, bare [][]byte) {
		room, stripe := roomyProgram(p), roomyBlocks(bare)
		want, wantStripe := heldProgram(room), heldBlocks(stripe)
		for _, call := range []func(){
			func() { regs.Run(room, stripe) },
			func() { regs.Same(room, room) },
			func() { regs.Same(room, roomyProgram(p)) },
		} {
			if call(); heldProgram(room) != want || heldBlocks(stripe) != wantStripe {
				t.Fatalf("what is handed in is changed: %.300s", told(p))
			}
		}
		if shown, other := shownProgram(room, stripe), shownProgram(p, bare); other != shown {
			t.Errorf("%.300s, without room behind %.300s", shown, other)
		}
	}
	for _, p := range cannot() {
		look(p, blocks(2, 3))
		look(p, [][]byte{{1}, {2, 3}})
	}
	for seed := range 400 {
		s := seeded(seed)
		count := s.below(4)
		look(s.program(s.below(5), s.below(5), count, s.below(20)), blocks(count, s.below(4)))
	}
}

func TestWhatIsAnsweredOfAFlowIsNewMemory(t *testing.T) {
	look := func(name string, f api.Flow) {
		f = roomyFlow(f)
		want := heldFlow(f)
		last, p := must(regs.Last(f)), must(regs.Give(f))
		first, q := must(regs.Last(f)), must(regs.Give(f))
		shown := shownFlow(f)
		isStill := func(what string) {
			t.Helper()
			if got := fmt.Sprintln(last, api.OK, told(p), api.OK); got != shown {
				t.Fatalf("%s: what is done to %s changes another answer", name, what)
			}
		}
		spoil(first, 7777)
		isStill("Last's list")
		spoil(q.Steps, api.Step{Kind: 77, D: 77, S: 77, C: 77})
		isStill("Steps")
		if heldFlow(f) != want || shownFlow(f) != shown {
			t.Fatalf("%s: what is done to an answer changes what was handed in, or what comes behind", name)
		}
		spoilFlow(f)
		isStill("what was handed in")
	}
	for _, k := range small() {
		look(k.name, k.f)
	}
	anyFlow(look)
}

// Places at which one register comes out, or a block as it was handed in, or
// noughts, are blocks of their own.
func TestBlocksThatComeOutAreNewMemory(t *testing.T) {
	look := func(name string, p api.Program, handed [][]byte) {
		p, handed = roomyProgram(p), roomyBlocks(handed)
		want, wantStripe := heldProgram(p), heldBlocks(handed)
		first, second := must(regs.Run(p, handed)), must(regs.Run(p, handed))
		kept := make([][]byte, len(first))
		for i := range kept {
			kept[i] = slices.Clone(first[i])
		}
		for i, out := range first {
			spoil(out, 77)
			for j, other := range first[i+1:] {
				if !slices.Equal(other, kept[i+1+j]) {
					t.Fatalf("%s: what is done to the place %d changes the place %d", name, i, i+1+j)
				}
			}
		}
		spoil(first, []byte{88})
		if third := must(regs.Run(p, handed)); !sameBlocks(second, kept) || !sameBlocks(third, kept) || heldProgram(p) != want || heldBlocks(handed) != wantStripe {
			t.Errorf("%s: what is done to an answer changes another, or what was handed in", name)
		}
		for _, block := range handed {
			spoil(block, behind)
		}
		spoil(handed, nil)
		spoil(p.Steps, api.Step{})
		if !sameBlocks(second, kept) {
			t.Errorf("%s: what is done to what was handed in changes an answer", name)
		}
	}
	look("noughts", all(3, 5), blocks(1, 3))
	look("one block", api.Program{Steps: steps("load 0 0; load 1 0; out 0 1; out 1 0; out 2 0"), Regs: 2, Outs: 3}, blocks(1, 4))
	everyProgram(func(name string, p api.Program, handed [][]byte) {
		if len(p.Steps) < 300 {
			look(name, p, handed)
		}
	})
}

// Rule 4: nil and a list without elements are the same.
func TestNilIsAListWithoutElements(t *testing.T) {
	for _, pair := range [][2]api.Flow{
		{{}, {Inputs: []int{}, Nodes: [][]api.Term{}, Outs: []int{}}},
		{{Nodes: nodes(nil), Outs: []int{0}}, {Inputs: []int{}, Nodes: nodes([]api.Term{}), Outs: []int{0}}},
		{{Outs: []int{0}}, {Inputs: []int{}, Nodes: [][]api.Term{}, Outs: []int{0}}},
		{{Inputs: []int{1}, Nodes: nodes(nil, node(1, 2))}, {Inputs: []int{1}, Nodes: nodes([]api.Term{}, node(1, 2)), Outs: []int{}}},
	} {
		if one, other := shownFlow(pair[0]), shownFlow(pair[1]); one != other {
			t.Errorf("of nil %s, of no elements %s", one, other)
		}
	}
	for _, pair := range [][2][][]byte{{nil, {}}, {{nil}, {{}}}, {{nil, {}, nil}, {{}, nil, {}}}} {
		for _, p := range []api.Program{{}, {Steps: steps("clear 0; out 0 0"), Regs: 1, Outs: 1}, {Steps: steps("load 0 0; out 0 0"), Regs: 1, Outs: 1}} {
			if one, other := shownProgram(p, pair[0]), shownProgram(p, pair[1]); one != other {
				t.Errorf("of nil %s, of no elements %s", one, other)
			}
		}
	}
	for _, p := range []api.Program{{}, {Regs: 3}, {Outs: 1}, {Regs: 300, Reads: 7}} {
		q := p
		q.Steps = []api.Step{}
		sameIs(t, "of nil and of no elements", p, q, true)
		if one, other := shownProgram(p, nil), shownProgram(q, nil); one != other {
			t.Errorf("of nil %s, of no elements %s", one, other)
		}
	}
}

// Rule 3: errors leave no trace in what comes behind them.
func TestErrorsChangeNothing(t *testing.T) {
	f, handed := dense(10, 20), blocks(10, 3)
	p := must(regs.Give(f))
	want := shownFlow(f) + shownProgram(p, handed)
	isStill := func() {
		t.Helper()
		if got := shownFlow(f) + shownProgram(p, handed); got != want {
			t.Errorf("behind errors %.300s, ahead of them %.300s", got, want)
		}
	}
	for _, wrong := range mayNotBe() {
		isRefused(t, wrong)
		isStill()
	}
	for _, beyond := range []api.Flow{gathered(0, 256), gathered(64, 1000), windowed(15, 41, 64)} {
		giveFails(t, "too many", beyond, api.ErrLimit)
		isStill()
	}
	for _, wrong := range cannot() {
		runFails(t, "can't be done", wrong, blocks(2, 3), api.ErrArg)
		runFails(t, "two lengths", wrong, [][]byte{{1}, nil}, api.ErrShape)
		isStill()
	}
}
