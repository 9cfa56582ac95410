package flow

import "recoup/api"

// Cost counts the sums and the products of all nodes.
func Cost(f api.Flow) (sums, products int, e api.Errno) {
	if !May(f) {
		return 0, 0, api.ErrArg
	}
	for _, terms := range f.Nodes {
		sums += max(len(terms)-1, 0)
		for _, term := range terms {
			if term.By != 1 {
				products++
			}
		}
	}
	return sums, products, api.OK
}

// Trim is the flow without the values on which none of Outs hangs.
func Trim(f api.Flow) (api.Flow, api.Errno) {
	if !May(f) {
		return api.Flow{}, api.ErrArg
	}
	needed := neededFor(f)
	numbers := numbersAnew(needed)
	var trimmed api.Flow
values:
	for value, isNeeded := range needed {
		if !isNeeded {
			continue values
		}
		if value < len(f.Inputs) {
			trimmed.Inputs = append(trimmed.Inputs, f.Inputs[value])
			continue values
		}
		trimmed.Nodes = append(trimmed.Nodes, renumbered(termsOf(f, value), numbers))
	}
	for _, out := range f.Outs {
		trimmed.Outs = append(trimmed.Outs, numbers[out])
	}
	return trimmed, api.OK
}

// neededFor marks the values on which any of Outs hangs.
func neededFor(f api.Flow) []bool {
	marks := make([]bool, valueCount(f))
	for _, out := range f.Outs {
		markNeeded(f, marks, out)
	}
	return marks
}

// markNeeded marks a value and all that it hangs on. It goes down to lesser
// numbers alone, so it ends; and below a value only once, for there are far more
// ways down than values.
func markNeeded(f api.Flow, marks []bool, value int) {
	if marks[value] {
		return
	}
	marks[value] = true
	for _, term := range termsOf(f, value) {
		markNeeded(f, marks, term.Of)
	}
}

// numbersAnew has for each value that is kept its number among those that are.
func numbersAnew(kept []bool) []int {
	numbers := make([]int, len(kept))
	next := 0
	for value, isKept := range kept {
		numbers[value] = next
		if isKept {
			next++
		}
	}
	return numbers
}

// renumbered are the terms with their values' new numbers.
func renumbered(terms []api.Term, numbers []int) []api.Term {
	made := make([]api.Term, len(terms))
	for i, term := range terms {
		made[i] = api.Term{Of: numbers[term.Of], By: term.By}
	}
	return made
}
