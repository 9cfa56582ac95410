package shape

import (
	"slices"

	"recoup/api"
	"recoup/matrix"
	"recoup/subset"
)

// Product is the code whose blocks, laid in rows, are in each column blocks of
// a, and in each row blocks of b.
func Product(a, b api.Code) (api.Code, api.Errno) {
	switch {
	case !May(a) || !May(b):
		return api.Code{}, api.ErrShape
	case a.G.Rows*b.G.Rows > api.MaxSide || tooManyGroups(a, b.G.Rows, b, a.G.Rows):
		return api.Code{}, api.ErrLimit
	}
	g, _ := matrix.Kron(a.G, b.G)
	stands := func(i, j int) int { return i*b.G.Rows + j }
	var groups []api.Set
	for _, group := range a.Groups {
		for j := range b.G.Rows {
			groups = append(groups, moved(group, func(i int) int { return stands(i, j) }))
		}
	}
	for i := range a.G.Rows {
		for _, group := range b.Groups {
			groups = append(groups, moved(group, func(j int) int { return stands(i, j) }))
		}
	}
	return api.Code{G: g, Groups: groups}, api.OK
}

// Join is the code of both side by side.
func Join(a, b api.Code) (api.Code, api.Errno) {
	switch {
	case !May(a) || !May(b):
		return api.Code{}, api.ErrShape
	case tooMany(a.G.Rows, b.G.Rows) || tooManyGroups(a, 1, b, 1):
		return api.Code{}, api.ErrLimit
	}
	g := noughts(a.G.Rows+b.G.Rows, a.G.Cols+b.G.Cols)
	g.lay(rows{a.G}, 0, 0)
	g.lay(rows{b.G}, a.G.Rows, a.G.Cols)
	groups := slices.Concat(a.Groups)
	for _, group := range b.Groups {
		groups = append(groups, moved(group, func(i int) int { return a.G.Rows + i }))
	}
	return api.Code{G: g.Matrix, Groups: groups}, api.OK
}

// tooManyGroups asks whether the groups of a and those of b, so many times
// each, are more than MaxPatterns. What is too long alone is found first, so
// that no product comes round.
func tooManyGroups(a api.Code, timesA int, b api.Code, timesB int) bool {
	if max(len(a.Groups), len(b.Groups)) > api.MaxPatterns {
		return true
	}
	return len(a.Groups)*timesA+len(b.Groups)*timesB > api.MaxPatterns
}

// moved is the set of the places where the blocks of a group stand.
func moved(group api.Set, stands func(i int) int) api.Set {
	blocks := subset.List(group)
	for at, i := range blocks {
		blocks[at] = stands(i)
	}
	made, _ := subset.Of(blocks...)
	return made
}
