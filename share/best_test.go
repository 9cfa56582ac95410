package share_test

import (
	"slices"
	"testing"

	"recoup/api"
	"recoup/share"
)

// P22.1

// bestIs tells where Best does not answer this, without an error.
func bestIs(t *testing.T, name string, f api.Flow, want share.Pair, wantOk bool) {
	t.Helper()
	if p, ok, e := share.Best(f); p != want || ok != wantOk || e != api.OK {
		t.Errorf("%s: Best of %.300s = %v, %v, %v, want %v, %v", name, written(f), p, ok, e, want, wantOk)
	}
}

func TestBest(t *testing.T) {
	everyFlow(func(name string, f api.Flow) {
		want, ok := slowBest(f)
		bestIs(t, name, f, want, ok)
	})
}

// pair is one in its order: U, V, the ratio, in how many nodes.
func pair(u, v int, ratio byte, in int) share.Pair {
	return share.Pair{U: u, V: v, Ratio: ratio, In: in}
}

func TestBestAtTheEdges(t *testing.T) {
	for _, c := range []struct {
		name string
		f    api.Flow
		want share.Pair
	}{
		{"the chapter's", example(), pair(0, 1, 2, 2)},
		{"in 256 nodes", wide(3, slices.Repeat([]int{2}, 256)...), pair(0, 1, 1, 256)},
		{"in two nodes", four(node(0, 7, 3, 7), node(0, 1, 3, 1)), pair(0, 3, 1, 2)},
		{"in three nodes", four(node(0, 7, 3, 7), node(0, 1, 3, 1), node(0, 2, 1, 1, 3, 2)), pair(0, 3, 1, 3)},
		{"in nodes that are not side by side", four(node(1, 1, 2, 4), nil, node(1, 1), node(1, 2, 2, 8)), pair(1, 2, 4, 2)},
		{"the ratio 255", four(node(0, 1, 1, 255), node(0, 1, 1, 255)), pair(0, 1, 255, 2)},
		{"the ratio is V's by U's", four(node(0, 2, 1, 1), node(0, 2, 1, 1)), pair(0, 1, 142, 2)},
		{"more nodes, greater U", four(node(0, 1, 1, 1), node(0, 1, 1, 1), node(1, 1, 2, 1), node(1, 1, 2, 1), node(1, 1, 2, 1)), pair(1, 2, 1, 3)},
		{"more nodes, greater V", four(node(0, 1, 1, 1), node(0, 1, 1, 1), node(0, 1, 2, 1), node(0, 1, 2, 1), node(0, 1, 2, 1)), pair(0, 2, 1, 3)},
		{"more nodes, greater ratio", four(node(0, 1, 1, 1), node(0, 1, 1, 1), node(0, 1, 1, 9), node(0, 1, 1, 9), node(0, 1, 1, 9)), pair(0, 1, 9, 3)},
		{"the least U, then not the least V", four(node(1, 1, 2, 1), node(1, 1, 2, 1), node(0, 1, 3, 1), node(0, 1, 3, 1)), pair(0, 3, 1, 2)},
		{"the least U, then not the least ratio", four(node(1, 1, 2, 1), node(1, 1, 2, 1), node(0, 1, 3, 7), node(0, 1, 3, 7)), pair(0, 3, 7, 2)},
		{"the least V", four(node(0, 1, 2, 1), node(0, 1, 2, 1), node(0, 1, 1, 1), node(0, 1, 1, 1)), pair(0, 1, 1, 2)},
		{"the least V, then not the least ratio", four(node(0, 1, 2, 1), node(0, 1, 2, 1), node(0, 1, 1, 7), node(0, 1, 1, 7)), pair(0, 1, 7, 2)},
		{"the least ratio", four(node(0, 1, 1, 5), node(0, 1, 1, 4), node(0, 2, 1, 8), node(0, 3, 1, 15)), pair(0, 1, 4, 2)},
		{"the least ratio as a number", four(node(0, 1, 1, 254), node(0, 1, 1, 254), node(0, 1, 1, 127), node(0, 1, 1, 127)), pair(0, 1, 127, 2)},
		{"of a node and an input", four(nil, node(3, 1, 4, 1), node(3, 1, 4, 1)), pair(3, 4, 1, 2)},
		{"of two nodes", four(nil, nil, node(4, 1, 5, 1), node(4, 1, 5, 1)), pair(4, 5, 1, 2)},
		{"outs are of no moment", api.Flow{Inputs: []int{0, 1}, Nodes: example().Nodes}, pair(0, 1, 2, 2)},
		{"512 terms", wide(1, 256, 256), pair(0, 1, 1, 2)},
		{"512 terms, most of them in one node", wide(1, 2, 2, 508), pair(0, 1, 1, 3)},
		{"512 terms, most of them alone", api.Flow{Inputs: []int{0, 1}, Nodes: append(slices.Repeat(nodes(node(0, 1)), 508), example().Nodes...)}, pair(0, 1, 2, 2)},
		{"4095 nodes", among(4093, example()), pair(0, 1, 2, 2)},
	} {
		bestIs(t, c.name, c.f, c.want, true)
	}
}

func TestNoBestAtTheEdges(t *testing.T) {
	for _, c := range []struct {
		name string
		f    api.Flow
	}{
		{"the chapter's", unlike()},
		{"nothing", api.Flow{}},
		{"no nodes", api.Flow{Inputs: counted(0, 64), Outs: counted(0, 64)}},
		{"no terms", api.Flow{Nodes: empty(9), Outs: []int{8}}},
		{"one term in each node", four(node(0, 1), node(0, 1), node(1, 1), node(1, 1))},
		{"one node", four(node(0, 1, 1, 1, 2, 1, 3, 1))},
		{"other values", four(node(0, 1, 1, 1), node(0, 1, 2, 1), node(1, 1, 2, 1), node(0, 1, 3, 1))},
		{"the ratio the other way round", four(node(0, 1, 1, 2), node(0, 2, 1, 1))},
		{"the same factors of others", four(node(0, 1, 1, 2), node(2, 1, 3, 2))},
		{"U's alone is the same", four(node(0, 5, 1, 2), node(0, 5, 1, 3))},
		{"V's alone is the same", four(node(0, 2, 1, 5), node(0, 3, 1, 5))},
		{"all ratios, each once", allRatios()},
		{"one pair of each two nodes", four(node(0, 1, 1, 1), node(1, 1, 2, 1), node(2, 1, 3, 1), node(0, 1, 3, 1))},
		{"513 terms", wide(1, 256, 257)},
		{"513 terms, the last one behind a pair", wide(1, 2, 2, 509)},
		{"513 terms, the first one ahead of a pair", wide(1, 509, 2, 2)},
		{"513 terms, most of them alone", api.Flow{Inputs: []int{0, 1}, Nodes: append(slices.Repeat(nodes(node(0, 1)), 509), example().Nodes...)}},
		{"many terms", wide(1, 512, 512, 512, 512)},
		{"4096 nodes", among(4094, example())},
		{"4096 nodes and 513 terms", among(4096-257-2, wide(1, 256, 257))},
	} {
		bestIs(t, c.name, c.f, share.Pair{}, false)
	}
}

// allRatios has each ratio of two inputs once.
func allRatios() api.Flow {
	f := api.Flow{Inputs: []int{0, 1}}
	for ratio := 1; ratio < 256; ratio++ {
		f.Nodes = append(f.Nodes, node(0, 1, 1, ratio))
	}
	return f
}

// With one node more each of the ratios is that of the best pair.
func TestEachRatio(t *testing.T) {
	for ratio := 1; ratio < 256; ratio++ {
		for _, by := range []int{1, 2, 99, 255} {
			f := allRatios()
			f.Nodes = append(f.Nodes, node(0, by, 1, int(products[by][ratio])))
			bestIs(t, "one node more", f, pair(0, 1, byte(ratio), 2), true)
		}
	}
}

// A map tells its keys in any order: whichever it is, the answer is the same.
func TestBestIsTheSameEachTime(t *testing.T) {
	for _, f := range []api.Flow{wide(1, 20, 20), wide(2, 9, 9, 9), four(node(0, 1, 1, 1, 2, 1, 3, 1), node(0, 1, 1, 1, 2, 1, 3, 1))} {
		for range 50 {
			bestIs(t, "once more", f, pair(0, 1, 1, len(f.Outs)), true)
		}
	}
}
