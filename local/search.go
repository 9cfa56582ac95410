package local

import (
	"iter"

	"recoup/api"
	"recoup/gauss"
	"recoup/matrix"
	"recoup/matroid"
	"recoup/subset"
)

// inFewest has for each row of g one that is as long as g's rank, with the same
// factors in all combinations. Those of the first independent rows have a 1 and
// noughts: the search, which asks for very many ranks, has them sooner of these.
func inFewest(g api.Matrix) api.Matrix {
	turned, _ := matrix.Transpose(g)
	reduced, pivots, _ := gauss.Reduce(turned)
	few := api.Matrix{Rows: len(pivots), Cols: reduced.Cols}
	few.Data = reduced.Data[:few.Rows*few.Cols]
	rows, _ := matrix.Transpose(few)
	return rows
}

// search looks for the first set that repairs b, if any set does.
func search(rows api.Matrix, b int) (reads api.Set, ok bool, e api.Errno) {
	all, _ := subset.Full(rows.Rows)
	if !repairs(rows, b, all&^(1<<b)) {
		return 0, false, api.OK
	}
	looked := 0
sizes:
	for size := range rows.Rows {
		for s := range others(rows.Rows, b, size) {
			if looked == api.MaxPatterns {
				break sizes
			}
			looked++
			if repairs(rows, b, s) {
				return s, true, api.OK
			}
		}
	}
	return 0, false, api.ErrLimit
}

// others tells the sets of this size of the numbers below n but b, in their
// order.
func others(n, b, size int) iter.Seq[api.Set] {
	return func(yield func(api.Set) bool) {
		for s := range subset.All(n-1, size) {
			// The numbers from b on stand for those behind it.
			below := s & (1<<b - 1)
			if !yield(below | (s^below)<<1) {
				return
			}
		}
	}
}

// repairs asks whether the row b is a combination of those in s, which has not
// b: just then their rank does not rise with it.
func repairs(rows api.Matrix, b int, s api.Set) bool {
	with, _ := matroid.Rank(rows, s|1<<b)
	if with > subset.Count(s) {
		return false
	}
	without, _ := matroid.Rank(rows, s)
	return with == without
}
