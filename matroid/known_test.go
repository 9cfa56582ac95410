package matroid_test

import (
	"slices"

	"recoup/api"
)

// known is a matrix, g, and what tells the rank of any of its rows without
// asking the project's packages. All else follows from the ranks, by the words
// of the document.
type known struct {
	name string
	g    api.Matrix
	rank func(rows []int) int
}

func (k known) free(s []int) bool {
	return k.rank(s) == len(s)
}

func (k known) span(s []int) []int {
	var made []int
	for i := range k.g.Rows {
		if k.rank(with(s, i)) == k.rank(s) {
			made = append(made, i)
		}
	}
	return made
}

func (k known) basis(s []int) []int {
	var made []int
	for place, i := range s {
		if lesser := s[:place]; k.rank(with(lesser, i)) > k.rank(lesser) {
			made = append(made, i)
		}
	}
	return made
}

func (k known) needed(s []int) []int {
	var made []int
	for _, i := range s {
		if k.rank(without(s, i)) < k.rank(s) {
			made = append(made, i)
		}
	}
	return made
}

// circuit is for an s that is independent: then the row b has one combination,
// and may take the place of just those rows that have a factor in it.
func (k known) circuit(b int, s []int) (c []int, ok bool) {
	both := with(s, b)
	if k.free(both) {
		return nil, false
	}
	for _, i := range both {
		if k.free(without(both, i)) {
			c = append(c, i)
		}
	}
	return c, true
}

// graph is a matrix with a row for each edge and a column for each vertex but
// the last one: a multiple of 1 at the edge's ends, so that an edge from a
// vertex to itself is a row of noughts; then its columns are mixed. The rank of
// some edges is how many times they join what was not joined before.
func graph(name string, vertices int, edges [][2]int, seed int) known {
	from := seeded(seed)
	plain := noughts(len(edges), vertices-1)
	for i, edge := range edges {
		factor := from.notZero()
		for _, end := range edge {
			if end < vertices-1 {
				row(plain, i)[end] ^= factor
			}
		}
	}
	return known{name, slowMul(plain, invertible(vertices-1, seed)), func(rows []int) int {
		part := rising(0, vertices)
		joined := 0
		for _, i := range rows {
			one, other := part[edges[i][0]], part[edges[i][1]]
			if one == other {
				continue
			}
			joined++
			for vertex := range part {
				if part[vertex] == one {
					part[vertex] = other
				}
			}
		}
		return joined
	}}
}

// anyEdges may be alike, and may end where they begin.
func anyEdges(vertices, count, seed int) [][2]int {
	from := seeded(seed)
	made := make([][2]int, count)
	for i := range made {
		made[i] = [2]int{from.below(vertices), from.below(vertices)}
	}
	return made
}

// ring are edges from each vertex to the next one, and from the last to the
// first.
func ring(vertices int) [][2]int {
	made := make([][2]int, vertices)
	for i := range made {
		made[i] = [2]int{i, (i + 1) % vertices}
	}
	return made
}

// complete are the edges between any two vertices.
func complete(vertices int) [][2]int {
	var made [][2]int
	for i := range vertices {
		for k := range i {
			made = append(made, [2]int{k, i})
		}
	}
	return made
}

// uniform has the powers of elements that are not the same as its rows: as
// many of them as there are columns are independent, whichever.
func uniform(rows, cols int) known {
	g := noughts(rows, cols)
	for i := range rows {
		power := byte(1)
		for j := range cols {
			row(g, i)[j] = power
			power = products[power][byte(3*i+1)]
		}
	}
	return known{"powers", g, func(rows []int) int { return min(len(rows), cols) }}
}

// reduced tells ranks by taking rows out of others.
func reduced(name string, g api.Matrix) known {
	return known{name, g, func(rows []int) int { return slowRank(picked(g, rows)) }}
}

// hanging are rows that are combinations of few ones: noughts, multiples of
// one, sums of two, any ones.
func hanging(rows, cols, rank, seed int) known {
	from := seeded(seed)
	independent := picked(invertible(cols, seed), rising(0, rank))
	g := noughts(rows, cols)
	for i := range rows {
		factors := make([]byte, rank)
		for range from.below(4) {
			if rank > 0 {
				factors[from.below(rank)] = from.notZero()
			}
		}
		copy(row(g, i), slowCombination(factors, independent))
	}
	return reduced("hanging rows", g)
}

// small are matrices of which all sets of rows may be gone through.
func small() []known {
	example := of(2, 1, 0, 0, 1, 1, 1, 2, 2, 0, 0)
	all := []known{
		reduced("the example", example),
		reduced("no rows, no columns", api.Matrix{}),
		reduced("no rows", noughts(0, 3)),
		reduced("no columns", noughts(5, 0)),
		reduced("noughts", noughts(4, 3)),
		reduced("one nought", noughts(1, 1)),
		reduced("one element", of(1, 7)),
		reduced("the identity", identity(6)),
		reduced("alike", of(3, 1, 2, 3, 1, 2, 3, 1, 2, 3)),
		reduced("one column", of(1, 0, 1, 0, 9, 255, 9)),
		graph("a ring", 6, ring(6), 1),
		graph("all edges of four", 4, complete(4), 2),
		graph("two alike, and one to itself", 3, [][2]int{{0, 1}, {1, 0}, {2, 2}, {1, 2}}, 3),
		uniform(6, 1),
		uniform(6, 3),
		uniform(5, 5),
		uniform(3, 5),
	}
	for seed := range 6 {
		all = append(all, graph("any edges", 5, anyEdges(5, 7, seed), seed))
		all = append(all, hanging(7, 4, 1+seed%4, seed))
	}
	return all
}

// great are matrices with up to as many rows as may be.
func great() []known {
	all := []known{
		reduced("no columns", noughts(64, 0)),
		reduced("noughts", noughts(64, 64)),
		reduced("the identity", identity(64)),
		reduced("no rows", noughts(0, 64)),
		reduced("any elements", filled(64, 40, 1)),
		graph("a ring", 64, ring(64), 1),
		graph("all edges of eleven", 11, complete(11), 2),
		uniform(64, 64),
		uniform(64, 63),
		uniform(64, 32),
		uniform(64, 1),
		uniform(63, 20),
	}
	for seed := range 2 {
		all = append(all, graph("any edges", 12+30*seed, anyEdges(12+30*seed, 64, seed), seed))
		all = append(all, hanging(64, 20, 15, seed))
	}
	return all
}

// allSets are all lists of numbers below n, each rising.
func allSets(n int) [][]int {
	made := [][]int{nil}
	for number := range n {
		for _, lesser := range slices.Clone(made) {
			made = append(made, append(slices.Clone(lesser), number))
		}
	}
	return made
}

// someSets are none, all, first and last ones, any ones.
func someSets(n, seed int) [][]int {
	from := seeded(seed)
	made := [][]int{nil, rising(0, n)}
	for count := 1; count < n; count += n / 6 {
		made = append(made, rising(0, count), rising(n-count, n), from.chosen(n, count))
	}
	return made
}

// sets are all of a small matrix, some of a great one.
func (k known) sets() [][]int {
	if k.g.Rows < 8 {
		return allSets(k.g.Rows)
	}
	return someSets(k.g.Rows, k.g.Cols)
}

// freeSets are such of them as are independent; of a great matrix also what
// was taken up, row by row, as long as it stayed so.
func (k known) freeSets() [][]int {
	var made [][]int
	for _, s := range k.sets() {
		if k.free(s) {
			made = append(made, s)
		}
	}
	if k.g.Rows < 8 {
		return made
	}
	from := seeded(k.g.Cols + 7)
	for range 3 {
		var taken []int
		for _, i := range from.shuffled(k.g.Rows) {
			if k.free(with(taken, i)) {
				taken = with(taken, i)
			}
		}
		made = append(made, taken)
		if len(taken) > 0 {
			made = append(made, without(taken, taken[from.below(len(taken))]))
		}
	}
	return made
}

// some of these rows are enough of a great matrix: the first, the last, any
// ones. Of a small one they are all.
func (k known) some(rows []int) []int {
	if k.g.Rows < 8 || len(rows) < 8 {
		return rows
	}
	made := []int{rows[0], rows[len(rows)-1]}
	for _, place := range seeded(len(rows)).chosen(len(rows), 4) {
		made = with(made, rows[place])
	}
	return made
}

// others are the rows that are not in s.
func (k known) others(s []int) []int {
	return slices.DeleteFunc(rising(0, k.g.Rows), func(i int) bool { return slices.Contains(s, i) })
}
