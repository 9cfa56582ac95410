package share_test

import (
	"slices"
	"testing"

	"recoup/api"
	"recoup/share"
)

// kinds counts of how many flows something holds.
type kinds map[string]int

func (k kinds) count(what string, holds bool) {
	if holds {
		k[what]++
	}
}

// The flows that the other tests go through are of all kinds, by what the models
// tell of them.
func TestFlowsOfAllKindsAreGoneThrough(t *testing.T) {
	found := kinds{}
	everyFlow(func(name string, f api.Flow) {
		if !slowMay(f) {
			t.Errorf("%s may not be", name)
		}
		best, ok := slowBest(f)
		found.count("no pair", !ok)
		if !ok {
			return
		}
		found.count("a pair", true)
		found.count("no inputs", len(f.Inputs) == 0)
		found.count("no outs", len(f.Outs) == 0)
		found.count("outs that are inputs", slices.ContainsFunc(f.Outs, func(out int) bool { return out < len(f.Inputs) }))
		found.count("a node without terms", slices.ContainsFunc(f.Nodes, func(terms []api.Term) bool { return len(terms) == 0 }))
		found.count("a node of one term", slices.ContainsFunc(f.Nodes, func(terms []api.Term) bool { return len(terms) == 1 }))
		found.count("in two nodes", best.In == 2)
		found.count("in three nodes", best.In == 3)
		found.count("in many nodes", best.In > 5)
		found.count("the ratio 1", best.Ratio == 1)
		found.count("another ratio", best.Ratio > 1)
		found.count("of nodes", best.U >= len(f.Inputs))
		found.count("of an input and a node", best.U < len(f.Inputs) && best.V >= len(f.Inputs))
		countOthers(found, f, best)
		countPlaces(found, f, best)
		countShared(found, f)
	})
	for _, what := range []string{
		"no pair", "a pair", "no inputs", "no outs", "outs that are inputs", "a node without terms", "a node of one term",
		"in two nodes", "in three nodes", "in many nodes", "the ratio 1", "another ratio", "of nodes", "of an input and a node",
		"told by In", "told by U", "told by V", "told by the ratio", "two ratios", "factors other than 1",
		"the first node", "a node behind others", "terms behind the new one", "terms between and behind", "outs behind the new one",
		"none more", "many more", "part of another",
	} {
		if found[what] < 20 {
			t.Errorf("%s: of %d flows", what, found[what])
		}
	}
}

// countOthers looks at the pairs that the best one is told apart from.
func countOthers(found kinds, f api.Flow, best share.Pair) {
	var in, u, v, ratio, two bool
	for _, pair := range slowPairs(f) {
		alike := pair.In == best.In
		in = in || pair.In < best.In && pair.U < best.U
		u = u || alike && pair.U > best.U && pair.V <= best.V
		v = v || alike && pair.U == best.U && pair.V > best.V && pair.Ratio < best.Ratio
		ratio = ratio || alike && pair.U == best.U && pair.V == best.V && pair.Ratio > best.Ratio
		two = two || pair.U == best.U && pair.V == best.V && pair.Ratio != best.Ratio
	}
	found.count("told by In", in)
	found.count("told by U", u)
	found.count("told by V", v)
	found.count("told by the ratio", ratio)
	found.count("two ratios", two)
}

// countPlaces looks at where the new node is put, and at what stands behind it.
func countPlaces(found kinds, f api.Flow, best share.Pair) {
	first := slices.IndexFunc(f.Nodes, func(terms []api.Term) bool { return slowIn(terms, best.U, best.V, best.Ratio) })
	own := len(f.Inputs) + first
	var behind, between, factor bool
	for _, terms := range f.Nodes {
		in := slowIn(terms, best.U, best.V, best.Ratio)
		factor = factor || in && slowFactor(terms, best.U) != 1
		for _, term := range terms {
			behind = behind || !in && term.Of >= own
			between = between || in && term.Of >= own && slices.ContainsFunc(terms, func(term api.Term) bool { return term.Of > best.V && term.Of < own })
		}
	}
	found.count("factors other than 1", factor)
	found.count("the first node", first == 0)
	found.count("a node behind others", first > 0)
	found.count("terms behind the new one", behind)
	found.count("terms between and behind", between)
	found.count("outs behind the new one", slices.ContainsFunc(f.Outs, func(out int) bool { return out > own }))
}

// countShared looks at what Share does, pair by pair.
func countShared(found kinds, f api.Flow) {
	taken, part := 0, false
	sums := map[int]bool{}
	for {
		best, ok := slowBest(f)
		if !ok {
			break
		}
		taken++
		part = part || sums[best.U] || sums[best.V]
		first := slices.IndexFunc(f.Nodes, func(terms []api.Term) bool { return slowIn(terms, best.U, best.V, best.Ratio) })
		own := len(f.Inputs) + first
		moved := map[int]bool{own: true}
		for sum := range sums {
			if sum < own {
				moved[sum] = true
			} else {
				moved[sum+1] = true
			}
		}
		sums = moved
		f, _ = slowOnce(f)
	}
	found.count("none more", taken == 1)
	found.count("many more", taken > 4)
	found.count("part of another", part)
}
