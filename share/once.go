package share

import (
	"cmp"
	"slices"

	"recoup/api"
	"recoup/field"
)

// withoutPair is f with a pair taken out that is in some node of it. U and V
// keep their numbers, since they stand ahead of the first such node.
func withoutPair(f api.Flow, p Pair) api.Flow {
	first := slices.IndexFunc(f.Nodes, func(terms []api.Term) bool { return factorIn(terms, p) != 0 })
	own := len(f.Inputs) + first
	nodes := make([][]api.Term, len(f.Nodes))
	for i, terms := range f.Nodes {
		nodes[i] = movedTerms(terms, own)
		if factor := factorIn(terms, p); factor != 0 {
			nodes[i] = withSum(nodes[i], p, api.Term{Of: own, By: factor})
		}
	}
	return api.Flow{
		Inputs: slices.Clone(f.Inputs),
		Nodes:  putIn(nodes, first, []api.Term{{Of: p.U, By: 1}, {Of: p.V, By: p.Ratio}}),
		Outs:   movedOuts(f.Outs, own),
	}
}

// factorIn is U's factor in a node in which the pair is, and 0 in any other.
func factorIn(terms []api.Term, p Pair) byte {
	u := factorOf(terms, p.U)
	if field.Mul(u, p.Ratio) != factorOf(terms, p.V) {
		return 0
	}
	return u
}

// factorOf is the factor that a node has of a value, 0 if it has no such term.
func factorOf(terms []api.Term, value int) byte {
	at, ok := placeOf(terms, value)
	if !ok {
		return 0
	}
	return terms[at].By
}

// placeOf is where the term of a value stands, or would stand.
func placeOf(terms []api.Term, value int) (at int, ok bool) {
	return slices.BinarySearchFunc(terms, value, func(term api.Term, value int) int {
		return cmp.Compare(term.Of, value)
	})
}

// withSum are the terms with the one of their sum in the place of the pair's.
func withSum(terms []api.Term, p Pair, sum api.Term) []api.Term {
	var others []api.Term
	for _, term := range terms {
		if term.Of != p.U && term.Of != p.V {
			others = append(others, term)
		}
	}
	at, _ := placeOf(others, sum.Of)
	return putIn(others, at, sum)
}

// putIn is a new list that has one more item, at this place: what is cut with
// no room behind its end is never written over by what is put behind it.
func putIn[T any](list []T, at int, item T) []T {
	return append(append(list[:at:at], item), list[at:]...)
}

// moved is the number that a value has once another one is put in at own.
func moved(value, own int) int {
	if value < own {
		return value
	}
	return value + 1
}

func movedTerms(terms []api.Term, own int) []api.Term {
	made := make([]api.Term, len(terms))
	for i, term := range terms {
		made[i] = api.Term{Of: moved(term.Of, own), By: term.By}
	}
	return made
}

func movedOuts(outs []int, own int) []int {
	made := make([]int, len(outs))
	for i, out := range outs {
		made[i] = moved(out, own)
	}
	return made
}

// copyOf is a flow that shares nothing with f, and whose lists share nothing.
func copyOf(f api.Flow) api.Flow {
	nodes := make([][]api.Term, len(f.Nodes))
	for i, terms := range f.Nodes {
		nodes[i] = slices.Clone(terms)
	}
	return api.Flow{Inputs: slices.Clone(f.Inputs), Nodes: nodes, Outs: slices.Clone(f.Outs)}
}
