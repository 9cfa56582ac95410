package share_test

import (
	"fmt"
	"slices"
	"testing"

	"recoup/api"
	"recoup/share"
)

// behind fills the room behind the end of a list that is handed in.
const behind = 0xa5

// roomy is a list of the same elements with room behind its end.
func roomy[T any](list []T, fill T) []T {
	room := slices.Repeat([]T{fill}, len(list)+70)
	copy(room, list)
	return room[:len(list)]
}

// roomyFlow is a flow whose lists have room behind their ends.
func roomyFlow(f api.Flow) api.Flow {
	made := api.Flow{Inputs: roomy(f.Inputs, behind), Outs: roomy(f.Outs, behind), Nodes: roomy(f.Nodes, node(behind, behind))}
	for i, terms := range f.Nodes {
		made.Nodes[i] = roomy(terms, api.Term{Of: behind, By: behind})
	}
	return made
}

// whole is all that a list's room has.
func whole[T any](list []T) []T {
	return list[:cap(list)]
}

// heldFlow is what a flow's lists have, the room behind their ends too.
func heldFlow(f api.Flow) string {
	var all [][]api.Term
	for _, terms := range whole(f.Nodes) {
		all = append(all, whole(terms))
	}
	return fmt.Sprint(whole(f.Inputs), len(f.Nodes), all, whole(f.Outs))
}

// shown is what all calls answer of a flow, as a text.
func shown(f api.Flow) string {
	p, ok, e := share.Best(f)
	once, ok1, e1 := share.Once(f)
	all, e2 := share.Share(f)
	return fmt.Sprintln(p, ok, e, written(once), ok1, e1, written(all), e2)
}

// handed are flows of all kinds, such that calls refuse among them.
func handed() []api.Flow {
	var made []api.Flow
	for _, k := range small() {
		made = append(made, k.f)
	}
	for seed := range 100 {
		made = append(made, seeded(seed).flow(5, 6, 4, 5, 1, 3), seeded(seed).multiples(5, 6, 4))
	}
	return append(append(made, mayNotBe()...), wide(3, 40, 50, 60), among(30, example()))
}

// Rule 5: what is handed in stays as it is, the room behind its end too, also
// where a call fails; that room is of no moment, and nothing is kept.
func TestWhatIsHandedInStays(t *testing.T) {
	for _, f := range handed() {
		room := roomyFlow(f)
		want := heldFlow(room)
		for _, call := range []func(){
			func() { share.Best(room) },
			func() { share.Once(room) },
			func() { share.Share(room) },
		} {
			if call(); heldFlow(room) != want {
				t.Fatalf("what is handed in is changed: %.300s", written(f))
			}
		}
		if told, other := shown(room), shown(f); other != told {
			t.Errorf("%s, without room behind %s", told, other)
		}
	}
}

// spoil writes over a list, the room behind its end too.
func spoil[T any](list []T, by T) {
	for i := range whole(list) {
		whole(list)[i] = by
	}
}

// spoilFlow writes over all lists of a flow, first over the terms.
func spoilFlow(f api.Flow) {
	for _, terms := range f.Nodes {
		spoil(terms, api.Term{Of: 7777, By: 77})
	}
	spoil(f.Inputs, 7777)
	spoil(f.Nodes, node(8888, 88))
	spoil(f.Outs, 7777)
}

// sharesNothing writes over the lists of a flow one after the other, and tells
// where another one of them is changed by it.
func sharesNothing(t *testing.T, name string, f api.Flow) {
	t.Helper()
	want := copied(f)
	for i, terms := range f.Nodes {
		spoil(terms, api.Term{Of: 7777, By: 77})
		want.Nodes[i] = slices.Repeat(node(7777, 77), len(terms))
		if written(f) != written(want) {
			t.Fatalf("%s: what is done to node %d is done to others", name, i)
		}
	}
	spoil(f.Inputs, 7777)
	want.Inputs = slices.Repeat([]int{7777}, len(f.Inputs))
	if written(f) != written(want) {
		t.Fatalf("%s: what is done to Inputs is done to others", name)
	}
	spoil(f.Outs, 8888)
	want.Outs = slices.Repeat([]int{8888}, len(f.Outs))
	if written(f) != written(want) {
		t.Fatalf("%s: what is done to Outs is done to others", name)
	}
}

// isNew tells where what is done to one answer of a call changes another one, or
// what was handed in, or the other way round.
func isNew(t *testing.T, name string, f api.Flow, call func(f api.Flow) api.Flow) {
	t.Helper()
	f = roomyFlow(f)
	want := heldFlow(f)
	first, second := call(f), call(f)
	told := written(second)
	sharesNothing(t, name, call(f))
	spoilFlow(first)
	if third := call(f); written(second) != told || written(third) != told || heldFlow(f) != want {
		t.Errorf("%s: what is done to an answer changes another, or what was handed in", name)
	}
	spoilFlow(f)
	if written(second) != told {
		t.Errorf("%s: what is done to what was handed in changes an answer", name)
	}
}

func TestFlowsAreNewMemory(t *testing.T) {
	look := func(name string, f api.Flow) {
		isNew(t, name+", Once", f, func(f api.Flow) api.Flow {
			g, _, e := share.Once(f)
			return must(g, e)
		})
		isNew(t, name+", Share", f, func(f api.Flow) api.Flow { return must(share.Share(f)) })
	}
	for _, k := range small() {
		look(k.name, k.f)
	}
	for _, k := range great() {
		if terms := len(written(k.f)); terms < 4000 {
			look(k.name, k.f)
		}
	}
	look("513 terms", wide(1, 256, 257))
	anyFlow(look)
}

// Rule 4: nil and a list without elements are the same.
func TestNilIsAListWithoutElements(t *testing.T) {
	for _, pair := range [][2]api.Flow{
		{{}, {Inputs: []int{}, Nodes: [][]api.Term{}, Outs: []int{}}},
		{{Nodes: nodes(nil), Outs: []int{0}}, {Inputs: []int{}, Nodes: nodes([]api.Term{}), Outs: []int{0}}},
		{{Outs: []int{0}}, {Inputs: []int{}, Nodes: [][]api.Term{}, Outs: []int{0}}},
		{{Nodes: nodes(nil, nil, node(0, 1, 1, 1), node(0, 1, 1, 1), nil)},
			{Inputs: []int{}, Nodes: nodes([]api.Term{}, []api.Term{}, node(0, 1, 1, 1), node(0, 1, 1, 1), []api.Term{}), Outs: []int{}}},
	} {
		if one, other := shown(pair[0]), shown(pair[1]); one != other {
			t.Errorf("of nil %s, of no elements %s", one, other)
		}
	}
}

// Rule 3: errors leave no trace in what comes behind them.
func TestErrorsChangeNothing(t *testing.T) {
	f := wide(2, 30, 30, 30)
	want := shown(f)
	for _, wrong := range mayNotBe() {
		isRefused(t, wrong)
		if got := shown(f); got != want {
			t.Errorf("behind errors %.300s, ahead of them %.300s", got, want)
		}
	}
}
