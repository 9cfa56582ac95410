package share_test

import (
	"testing"

	"recoup/api"
	"recoup/share"
)

// P22.2

// onceIs tells where Once does not answer this, without an error.
func onceIs(t *testing.T, name string, f, want api.Flow, wantOk bool) {
	t.Helper()
	if g, ok, e := share.Once(f); written(g) != written(want) || ok != wantOk || e != api.OK {
		t.Errorf("%s: Once of %.300s = %.300s, %v, %v, want %.300s, %v", name, written(f), written(g), ok, e, written(want), wantOk)
	}
}

func TestOnce(t *testing.T) {
	everyFlow(func(name string, f api.Flow) {
		want, ok := slowOnce(f)
		onceIs(t, name, f, want, ok)
	})
}

func TestOnceAtTheEdges(t *testing.T) {
	for _, c := range []struct {
		name    string
		f, want api.Flow
	}{
		{"the chapter's", example(),
			api.Flow{Inputs: []int{0, 1}, Nodes: nodes(node(0, 1, 1, 2), node(2, 1), node(2, 3)), Outs: []int{3, 4}}},
		{"no outs", api.Flow{Inputs: []int{0, 1}, Nodes: example().Nodes},
			api.Flow{Inputs: []int{0, 1}, Nodes: nodes(node(0, 1, 1, 2), node(2, 1), node(2, 3))}},
		{"outs that are inputs", api.Flow{Inputs: []int{6, 8}, Nodes: example().Nodes, Outs: []int{1, 2, 0, 3, 0}},
			api.Flow{Inputs: []int{6, 8}, Nodes: nodes(node(0, 1, 1, 2), node(2, 1), node(2, 3)), Outs: []int{1, 3, 0, 4, 0}}},
		{"no inputs", api.Flow{Nodes: nodes(nil, nil, node(0, 5, 1, 5), node(0, 7, 1, 7)), Outs: []int{3, 2, 1, 0}},
			api.Flow{Nodes: nodes(nil, nil, node(0, 1, 1, 1), node(2, 5), node(2, 7)), Outs: []int{4, 3, 1, 0}}},
		{"other terms ahead of and between the pair's", four(node(0, 7, 1, 1, 2, 9, 3, 1), node(0, 8, 1, 1, 2, 4, 3, 1)),
			withOuts(four(node(1, 1, 3, 1), node(0, 7, 2, 9, 4, 1), node(0, 8, 2, 4, 4, 1)), 5, 6)},
		{"the first node is behind others", four(node(0, 1), nil, node(1, 3, 2, 5), node(1, 3, 2, 5)),
			withOuts(four(node(0, 1), nil, node(1, 1, 2, 3), node(6, 3), node(6, 3)), 4, 5, 7, 8)},
		{"a node that the pair is not in behind the new one", four(node(1, 3, 2, 3), node(1, 3, 2, 6), node(1, 1, 2, 1)),
			withOuts(four(node(1, 1, 2, 1), node(4, 3), node(1, 3, 2, 6), node(4, 1)), 5, 6, 7)},
		{"U alone and V alone", four(node(1, 1, 2, 1), node(1, 1), node(2, 1), node(1, 1, 2, 1), node(1, 2, 3, 2)),
			withOuts(four(node(1, 1, 2, 1), node(4, 1), node(1, 1), node(2, 1), node(4, 1), node(1, 2, 3, 2)), 5, 6, 7, 8, 9)},
		{"nodes on which others hang", four(node(0, 4), node(0, 1, 1, 1), node(0, 2, 1, 2, 4, 3, 5, 4), node(4, 1, 5, 2, 6, 3)),
			withOuts(four(node(0, 4), node(0, 1, 1, 1), node(5, 1), node(4, 3, 5, 2, 6, 4), node(4, 1, 6, 2, 7, 3)), 4, 6, 7, 8)},
		{"a pair of nodes", four(node(0, 1), node(1, 1), node(4, 1, 5, 2), node(4, 3, 5, 6, 6, 1)),
			withOuts(four(node(0, 1), node(1, 1), node(4, 1, 5, 2), node(6, 1), node(6, 3, 7, 1)), 4, 5, 7, 8)},
		{"more nodes, then a lesser pair that stays", four(node(0, 1, 1, 1), node(0, 1, 1, 1), node(2, 1, 3, 1), node(2, 1, 3, 1), node(2, 1, 3, 1)),
			withOuts(four(node(0, 1, 1, 1), node(0, 1, 1, 1), node(2, 1, 3, 1), node(6, 1), node(6, 1), node(6, 1)), 4, 5, 7, 8, 9)},
		{"one ratio of two", four(node(0, 1, 1, 5), node(0, 1, 1, 4), node(0, 2, 1, 8), node(0, 3, 1, 15)),
			withOuts(four(node(0, 1, 1, 5), node(0, 1, 1, 4), node(5, 1), node(5, 2), node(0, 3, 1, 15)), 4, 6, 7, 8)},
		{"4095 nodes", among(4093, example()),
			api.Flow{Inputs: []int{0, 1}, Nodes: append(empty(4093), node(0, 1, 1, 2), node(4095, 1), node(4095, 3)), Outs: []int{4096, 4097}}},
	} {
		onceIs(t, c.name, c.f, c.want, true)
	}
}

// withOuts is a flow with these outs.
func withOuts(f api.Flow, outs ...int) api.Flow {
	return api.Flow{Inputs: f.Inputs, Nodes: f.Nodes, Outs: outs}
}

func TestOnceOfNoPair(t *testing.T) {
	for _, k := range []kind{
		{"the chapter's", unlike()},
		{"nothing", api.Flow{}},
		{"no nodes", api.Flow{Inputs: []int{9, 63}, Outs: []int{1, 0, 1}}},
		{"nodes without terms", api.Flow{Nodes: empty(3), Outs: []int{2, 0}}},
		{"513 terms", wide(1, 256, 257)},
		{"4096 nodes", among(4094, example())},
		{"all ratios, each once", allRatios()},
	} {
		onceIs(t, k.name, k.f, k.f, false)
	}
}

// shareIs tells where Share does not answer this, without an error.
func shareIs(t *testing.T, name string, f, want api.Flow) {
	t.Helper()
	if g, e := share.Share(f); written(g) != written(want) || e != api.OK {
		t.Errorf("%s: Share of %.300s = %.300s, %v, want %.300s", name, written(f), written(g), e, written(want))
	}
}

func TestShare(t *testing.T) {
	everyFlow(func(name string, f api.Flow) {
		want := slowShare(f)
		if !slowMay(want) {
			t.Fatalf("%s: %.300s may not be", name, written(want))
		}
		shareIs(t, name, f, want)
	})
}

func TestShareAtTheEdges(t *testing.T) {
	full := among(4091, four(node(0, 1, 1, 1), node(0, 1, 1, 1), node(2, 1, 3, 1), node(2, 1, 3, 1)))
	for _, c := range []struct {
		name    string
		f, want api.Flow
	}{
		{"the chapter's", example(),
			api.Flow{Inputs: []int{0, 1}, Nodes: nodes(node(0, 1, 1, 2), node(2, 1), node(2, 3)), Outs: []int{3, 4}}},
		{"the chapter's other one", unlike(), unlike()},
		{"nothing", api.Flow{}, api.Flow{}},
		{"no nodes", api.Flow{Inputs: []int{9, 63}, Outs: []int{1, 0, 1}}, api.Flow{Inputs: []int{9, 63}, Outs: []int{1, 0, 1}}},
		{"two pairs apart", four(node(2, 1, 3, 1), node(2, 1, 3, 1), node(0, 1, 1, 1), node(0, 1, 1, 1)),
			withOuts(four(node(2, 1, 3, 1), node(4, 1), node(4, 1), node(0, 1, 1, 1), node(7, 1), node(7, 1)), 5, 6, 8, 9)},
		{"a pair becomes part of another", four(node(0, 1, 1, 1, 2, 1), node(0, 1, 1, 1, 2, 1), node(0, 1, 1, 1)),
			withOuts(four(node(0, 1, 1, 1), node(2, 1, 4, 1), node(5, 1), node(5, 1), node(4, 1)), 6, 7, 8)},
		{"all three of two nodes, one twice the other", four(node(0, 1, 1, 2, 2, 3), node(0, 2, 1, 4, 2, 6)),
			withOuts(four(node(0, 1, 1, 2), node(2, 1, 4, 244), node(5, 3), node(5, 6)), 6, 7)},
		{"sums of nodes one upon the other", four(node(0, 1, 1, 1), node(0, 1, 1, 1, 4, 1), node(0, 1, 1, 1, 4, 1, 5, 1)),
			withOuts(four(node(0, 1, 1, 1), node(4, 1), node(4, 1, 5, 1), node(6, 1), node(6, 1, 7, 1)), 5, 7, 8)},
		{"one node less than there may be", full,
			api.Flow{Inputs: []int{0, 1, 2, 3}, Nodes: append(empty(4091), node(0, 1, 1, 1), node(4095, 1), node(4095, 1), node(2, 1, 3, 1), node(2, 1, 3, 1)), Outs: []int{4096, 4097, 4098, 4099}}},
		{"513 terms", wide(1, 256, 257), wide(1, 256, 257)},
		{"as many nodes as there may be", among(4094, example()), among(4094, example())},
	} {
		shareIs(t, c.name, c.f, c.want)
	}
}

// Of two nodes of the same terms the least two values are added first, then the
// two behind them, and so on to sums of sums, till one value is left.
func TestShareOfTheSameSum(t *testing.T) {
	for _, length := range []int{2, 3, 9, 64, 256} {
		f, want := wide(1, length, length), api.Flow{Nodes: empty(length)}
		for sum := range length - 1 {
			want.Nodes = append(want.Nodes, node(2*sum, 1, 2*sum+1, 1))
		}
		last := len(want.Nodes) - 1
		want.Nodes = append(want.Nodes, node(last, 1), node(last, 1))
		want.Outs = []int{last + 1, last + 2}
		shareIs(t, "the same sum", f, want)
	}
}

// Share is Once, over and over.
func TestShareIsOnceOverAndOver(t *testing.T) {
	look := func(name string, f api.Flow) {
		want, more := f, true
		for more {
			g, ok, e := share.Once(want)
			if e != api.OK {
				t.Fatalf("%s: Once: %v", name, e)
			}
			want, more = g, ok
		}
		shareIs(t, name, f, want)
	}
	for _, k := range small() {
		look(k.name, k.f)
	}
	anyFlow(look)
}
