package build

import (
	"iter"

	"recoup/api"
	"recoup/gauss"
	"recoup/matrix"
)

// Check is the matrix that sends to noughts just the lists of blocks that g
// makes.
func Check(g api.Matrix) (api.Matrix, api.Errno) {
	if !isTall(g) {
		return api.Matrix{}, api.ErrShape
	}
	turned, _ := matrix.Transpose(g)
	checks, _ := gauss.Kernel(turned)
	if checks.Rows > g.Rows-g.Cols {
		// What the rank lacks, there is too much of the checks.
		return api.Matrix{}, api.ErrSingular
	}
	return checks, api.OK
}

// MDS asks whether any rows of g, as many as columns, are independent.
func MDS(g api.Matrix) (bool, api.Errno) {
	switch {
	case !isTall(g):
		return false, api.ErrShape
	case tooManyChoices(g.Rows, g.Cols):
		return false, api.ErrLimit
	}
	checks, e := Check(g)
	if e != api.OK {
		return false, api.OK
	}
	if checks.Rows < g.Cols {
		// Rows of g are independent just if those columns of checks are that
		// stand at all other places: there the ranks are of fewer rows.
		g, _ = matrix.Transpose(checks)
	}
	for rows := range choices(g.Rows, g.Cols) {
		if !areIndependent(g, rows) {
			return false, api.OK
		}
	}
	return true, api.OK
}

func areIndependent(g api.Matrix, rows []int) bool {
	picked, _ := matrix.Pick(g, rows...)
	rank, _ := gauss.Rank(picked)
	return rank == len(rows)
}

// tooManyChoices asks whether there are more than MaxPatterns choices of count
// out of n, 0 <= count <= n. It leaves off at the limit, so that no product
// leaves its bounds.
func tooManyChoices(n, count int) bool {
	// There are as many of those that are left out. Up to half of n each
	// number of choices is greater than the one ahead of it.
	count = min(count, n-count)
	found := 1
	for i := range count {
		found *= n - i
		found /= i + 1
		if found > api.MaxPatterns {
			return true
		}
	}
	return false
}

// choices tells all choices of count numbers below n, each rising. A choice is
// to be read only till the next one is told, which is written over it.
func choices(n, count int) iter.Seq[[]int] {
	return func(yield func([]int) bool) {
		chosen := numbers(0, count)
		for yield(chosen) && goOn(chosen, n) {
		}
	}
}

// goOn changes a choice of numbers below n to the next one, if there is one.
func goOn(chosen []int, n int) bool {
	for i := len(chosen) - 1; i >= 0; i-- {
		behind := len(chosen) - i
		if chosen[i]+behind < n {
			copy(chosen[i:], numbers(chosen[i]+1, chosen[i]+1+behind))
			return true
		}
	}
	return false
}
