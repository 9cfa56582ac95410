package flow_test

import (
	"fmt"
	"slices"
	"testing"

	"recoup/api"
	"recoup/flow"
)

// behind fills the room behind the end of a list that is handed in.
const behind = 0xa5

// roomy is a list of the same elements with room behind its end.
func roomy[T any](list []T, fill T) []T {
	room := slices.Repeat([]T{fill}, len(list)+70)
	copy(room, list)
	return room[:len(list)]
}

// roomyFlow is a flow whose lists have room behind their ends.
func roomyFlow(f api.Flow) api.Flow {
	made := api.Flow{Inputs: roomy(f.Inputs, behind), Outs: roomy(f.Outs, behind), Nodes: roomy(f.Nodes, node(behind, behind))}
	for i, terms := range f.Nodes {
		made.Nodes[i] = roomy(terms, api.Term{Of: behind, By: behind})
	}
	return made
}

func roomyBlocks(list [][]byte) [][]byte {
	made := roomy(list, []byte{behind})
	for i, block := range list {
		made[i] = roomy(block, behind)
	}
	return made
}

// whole is all that a list's room has.
func whole[T any](list []T) []T {
	return list[:cap(list)]
}

// heldFlow is what a flow's lists have, the room behind their ends too.
func heldFlow(f api.Flow) string {
	var all [][]api.Term
	for _, terms := range whole(f.Nodes) {
		all = append(all, whole(terms))
	}
	return fmt.Sprint(whole(f.Inputs), len(f.Nodes), all, whole(f.Outs))
}

func heldBlocks(list [][]byte) string {
	var all [][]byte
	for _, block := range whole(list) {
		all = append(all, whole(block))
	}
	return fmt.Sprint(len(list), all)
}

// shown is what all calls answer of a flow, of columns and of blocks, as a text.
func shown(f api.Flow, cols int, handed [][]byte) string {
	m, e := flow.Matrix(f, cols)
	outs, e1 := flow.Run(f, handed)
	sums, products, e2 := flow.Cost(f)
	trimmed, e3 := flow.Trim(f)
	return fmt.Sprintln(flow.May(f), flow.Same(f, f), flow.Same(f, example()), flow.Same(example(), f), m, e, outs, e1, sums, products, e2, written(trimmed), e3)
}

// handed are flows of all kinds, such that calls refuse among them.
func handed() []api.Flow {
	var made []api.Flow
	for _, k := range small() {
		made = append(made, k.f)
	}
	for seed := range 60 {
		made = append(made, seeded(seed).flow(5, 6, 4, 5))
	}
	return append(append(made, mayNotBe()...), ladder())
}

// Rule 5: what is handed in stays as it is, the room behind its end too, also
// where a call fails; that room is of no moment, and nothing is kept.
func TestWhatIsHandedInStays(t *testing.T) {
	for i, f := range handed() {
		for _, cols := range []int{least(f) - 1, least(f), 64, -1} {
			bare := blocks(max(0, min(cols, 64)), 3)
			if i%3 == 0 && len(bare) > 1 {
				bare[1] = nil
			}
			room, stripe := roomyFlow(f), roomyBlocks(bare)
			want, wantStripe := heldFlow(room), heldBlocks(stripe)
			told := shown(room, cols, stripe)
			if heldFlow(room) != want || heldBlocks(stripe) != wantStripe {
				t.Fatalf("what is handed in is changed, %d: %s", cols, written(f))
			}
			if other := shown(f, cols, bare); other != told {
				t.Errorf("%s, without room behind %s", told, other)
			}
		}
	}
}

func TestOfLeavesTheMatrix(t *testing.T) {
	for _, m := range append(matrices(), notRight()...) {
		bare := m
		m.Data = roomy(m.Data, behind)
		want := fmt.Sprint(whole(m.Data))
		f, e := flow.Of(m)
		if fmt.Sprint(whole(m.Data)) != want {
			t.Fatalf("the matrix %v is changed", bare)
		}
		if other, e1 := flow.Of(bare); e != e1 || written(f) != written(other) {
			t.Errorf("%s, %v, without room behind %s, %v", written(f), e, written(other), e1)
		}
	}
}

// spoil writes over a list, the room behind its end too.
func spoil[T any](list []T, by T) {
	for i := range whole(list) {
		whole(list)[i] = by
	}
}

// spoilFlow writes over all lists of a flow, first over the terms.
func spoilFlow(f api.Flow) {
	for _, terms := range f.Nodes {
		spoil(terms, api.Term{Of: 7777, By: 77})
	}
	spoil(f.Inputs, 7777)
	spoil(f.Nodes, node(8888, 88))
	spoil(f.Outs, 7777)
}

// sharesNothing writes over the lists of a flow one after the other, and tells
// where another one of them is changed by it.
func sharesNothing(t *testing.T, name string, f api.Flow) {
	t.Helper()
	want := copied(f)
	for i, terms := range f.Nodes {
		spoil(terms, api.Term{Of: 7777, By: 77})
		want.Nodes[i] = slices.Repeat(node(7777, 77), len(terms))
		if written(f) != written(want) {
			t.Fatalf("%s: what is done to node %d is done to others", name, i)
		}
	}
	spoil(f.Inputs, 7777)
	want.Inputs = slices.Repeat([]int{7777}, len(f.Inputs))
	if written(f) != written(want) {
		t.Fatalf("%s: what is done to Inputs is done to others", name)
	}
	spoil(f.Outs, 8888)
	want.Outs = slices.Repeat([]int{8888}, len(f.Outs))
	if written(f) != written(want) {
		t.Fatalf("%s: what is done to Outs is done to others", name)
	}
}

func TestFlowsOfMatricesAreNewMemory(t *testing.T) {
	for _, m := range matrices() {
		m.Data = roomy(m.Data, behind)
		want := fmt.Sprint(whole(m.Data))
		first, second := must(flow.Of(m)), must(flow.Of(m))
		told := written(second)
		sharesNothing(t, "of a matrix", first)
		spoilFlow(first)
		if third := must(flow.Of(m)); written(second) != told || written(third) != told || fmt.Sprint(whole(m.Data)) != want {
			t.Errorf("what is done to an answer changes another, or the matrix %v", m)
		}
		spoil(m.Data, 0)
		if written(second) != told {
			t.Errorf("what is done to the matrix changes an answer")
		}
	}
}

func TestTrimmedFlowsAreNewMemory(t *testing.T) {
	look := func(name string, f api.Flow) {
		f = roomyFlow(f)
		want := heldFlow(f)
		first, second := must(flow.Trim(f)), must(flow.Trim(f))
		told := written(second)
		sharesNothing(t, name, first)
		spoilFlow(first)
		if third := must(flow.Trim(f)); written(second) != told || written(third) != told || heldFlow(f) != want {
			t.Errorf("%s: what is done to an answer changes another, or what was handed in", name)
		}
		spoilFlow(f)
		if written(second) != told {
			t.Errorf("%s: what is done to what was handed in changes an answer", name)
		}
	}
	for _, k := range small() {
		look(k.name, k.f)
	}
	anyFlow(look)
}

// Outs that are one value, or an input, are blocks of their own.
func TestBlocksThatComeOutAreNewMemory(t *testing.T) {
	look := func(name string, f api.Flow) {
		f = roomyFlow(f)
		stripe := roomyBlocks(blocks(least(f)+1, 4))
		want, wantStripe := heldFlow(f), heldBlocks(stripe)
		first, second := must(flow.Run(f, stripe)), must(flow.Run(f, stripe))
		told := slices.Clone(first)
		for i := range told {
			told[i] = slices.Clone(told[i])
		}
		for i, out := range first {
			spoil(out, 77)
			for j, other := range first[i+1:] {
				if !slices.Equal(other, told[i+1+j]) {
					t.Fatalf("%s: what is done to the out %d changes the out %d", name, i, i+1+j)
				}
			}
		}
		spoil(first, []byte{88})
		if third := must(flow.Run(f, stripe)); !sameBlocks(second, told) || !sameBlocks(third, told) || heldFlow(f) != want || heldBlocks(stripe) != wantStripe {
			t.Errorf("%s: what is done to an answer changes another, or what was handed in", name)
		}
		for _, block := range stripe {
			spoil(block, behind)
		}
		spoil(stripe, nil)
		spoilFlow(f)
		if !sameBlocks(second, told) {
			t.Errorf("%s: what is done to what was handed in changes an answer", name)
		}
	}
	for _, k := range small() {
		look(k.name, k.f)
	}
	anyFlow(look)
}

func TestMatricesOfFlowsAreNewMemory(t *testing.T) {
	for _, k := range small() {
		f := roomyFlow(k.f)
		want := heldFlow(f)
		first, second := must(flow.Matrix(f, 64)), must(flow.Matrix(f, 64))
		spoil(first.Data, 77)
		spoilt := heldFlow(f)
		spoilFlow(f)
		if !alike(second, slowMatrix(k.f, 64)) || spoilt != want {
			t.Errorf("%s: an answer shares memory with another, or with what was handed in", k.name)
		}
	}
}

// Rule 4: nil and a list without elements are the same.
func TestNilIsAListWithoutElements(t *testing.T) {
	for _, pair := range [][2]api.Flow{
		{{}, {Inputs: []int{}, Nodes: [][]api.Term{}, Outs: []int{}}},
		{{Nodes: nodes(nil), Outs: []int{0}}, {Inputs: []int{}, Nodes: nodes([]api.Term{}), Outs: []int{0}}},
		{{Inputs: []int{1}, Nodes: nodes(nil, node(1, 2))}, {Inputs: []int{1}, Nodes: nodes([]api.Term{}, node(1, 2)), Outs: []int{}}},
		{{Outs: []int{0}}, {Inputs: []int{}, Nodes: [][]api.Term{}, Outs: []int{0}}},
	} {
		for _, cols := range []int{0, 1, 2, 65} {
			for _, lists := range [][2][][]byte{{nil, {}}, {{nil}, {{}}}, {{nil, {}, nil}, {{}, nil, {}}}} {
				if one, other := shown(pair[0], cols, lists[0]), shown(pair[1], cols, lists[1]); one != other {
					t.Errorf("of nil %s, of no elements %s", one, other)
				}
			}
		}
	}
	for _, sides := range [][2]int{{0, 0}, {0, 64}, {64, 0}, {0, 65}, {2, 2}} {
		one, e := flow.Of(api.Matrix{Rows: sides[0], Cols: sides[1]})
		other, e1 := flow.Of(api.Matrix{Rows: sides[0], Cols: sides[1], Data: []byte{}})
		if written(one) != written(other) || e != e1 {
			t.Errorf("%v: of nil %s, %v, of no elements %s, %v", sides, written(one), e, written(other), e1)
		}
	}
}

// Rule 3: errors leave no trace in what comes behind them.
func TestErrorsChangeNothing(t *testing.T) {
	f, stripe := ladder(), blocks(64, 2)
	want := shown(f, 64, stripe)
	for range 3 {
		isRefused(t, api.Flow{Outs: []int{0}})
		matrixFails(t, "too few columns", f, 63)
		runFails(t, "too few blocks", f, stripe[:63], api.ErrShape)
		runFails(t, "two lengths", f, append(stripe[:64:64], nil), api.ErrShape)
		if _, e := flow.Of(api.Matrix{Rows: 1, Cols: 1}); e != api.ErrShape {
			t.Errorf("Of: %v", e)
		}
		if got := shown(f, 64, stripe); got != want {
			t.Errorf("behind errors %s, ahead of them %s", got, want)
		}
	}
}
