package elab_test

import (
	"fmt"
	"testing"

	"recoup/api"
	"recoup/elab"
)

// P17.2: the layout of a core.

func buildIs(t *testing.T, what string, c api.Core, want api.Layout) {
	t.Helper()
	got, e := elab.Build(c)
	if shown(got) != shown(want) || e != api.OK {
		t.Errorf("Build of %s = %s, %v; want %s", short(what), short(shown(got)), e, short(shown(want)))
	}
	if !elab.May(got) {
		t.Errorf("what Build of %s answers may not be", short(what))
	}
}

func buildFails(t *testing.T, what string, c api.Core, want api.Errno) {
	t.Helper()
	if got, e := elab.Build(c); shown(got) != shown(api.Layout{}) || e != want {
		t.Errorf("Build of %s = %s, %v; want %v", short(what), short(shown(got)), e, want)
	}
}

// buildModelled holds what Build answers against what is made in a slow way,
// and tells whether that is a layout.
func buildModelled(t *testing.T, what string, c api.Core) bool {
	t.Helper()
	want, e := slowBuild(c)
	if e != api.OK {
		buildFails(t, what, c, e)
		return false
	}
	buildIs(t, what, c, want)
	return true
}

func TestBuildKnown(t *testing.T) {
	buildIs(t, "a reed of two", used(reed(1, 1)), api.Layout{Code: code(of(1, 1, 1)), Homes: []int{0, 1}, Domains: 2})
	c := used(three(api.SLocal, 2, 1, 1))
	c.Domains, c.Place, c.Tolerate = 2, api.PSpread, 1
	buildIs(t, "a local code", c, api.Layout{Code: code(of(2, 1, 0, 0, 1, 1, 1, 142, 244), set(0, 1, 2)), Homes: []int{0, 0, 1, 1}, Domains: 2, Tolerate: 1})
	buildFails(t, "noughts", used(explicit(of(1, 0, 0))), api.ErrSingular)
	buildIs(t, "one that is not 0", used(explicit(of(1, 0, 3))), api.Layout{Code: code(of(1, 0, 3)), Homes: []int{0, 1}, Domains: 2})
}

// The used code alone is answered, wherever it stands.
func TestBuildOfEachUse(t *testing.T) {
	for use, l := range full().Codes {
		c := full()
		c.Use, c.Tolerate = use, min(c.Tolerate, l.N)
		if !buildModelled(t, fmt.Sprint("a core that uses ", use), c) {
			t.Errorf("the code %d is singular", use)
		}
	}
}

// Each way to place the blocks, with several domains and steps.
func TestBuildOfEachPlace(t *testing.T) {
	for _, n := range []int{1, 2, 5, 13, 63, 64} {
		for _, domains := range []int{1, 2, 3, 7, n, 63, 64} {
			c := used(reed(1, n-1))
			c.Domains = domains
			buildModelled(t, "a row", c)
			c.Place = api.PSpread
			buildModelled(t, "a spread", c)
			for _, step := range []int{1, 2, 3, domains, domains + 1, 64, 65, 1000003, api.MaxNumber} {
				c.Place, c.Step = api.PSpiral, step
				buildModelled(t, fmt.Sprint("a spiral of the step ", step), c)
			}
			c.Place, c.Step, c.List = api.PList, 0, make([]int, n)
			buildModelled(t, "a list of noughts", c)
			for b := range c.List {
				c.List[b] = (domains - 1) * (b % 2)
			}
			buildModelled(t, "a list of first and last", c)
			for b := range c.List {
				c.List[b] = (b*b + 3) % domains
			}
			buildModelled(t, "a list of any", c)
		}
	}
}

func TestBuildKeepsTolerate(t *testing.T) {
	for _, n := range []int{1, 2, 14, 15, 64} {
		c := used(two(api.SCross, 1, n-1))
		for c.Tolerate = 0; c.Tolerate <= n && sets(n, c.Tolerate) <= api.MaxPatterns; c.Tolerate++ {
			buildModelled(t, fmt.Sprint(c.Tolerate, " of ", n), c)
		}
		if c.Tolerate <= n {
			buildFails(t, fmt.Sprint(c.Tolerate, " of ", n), c, api.ErrArg)
		}
	}
}

// The rank is just the number of columns, or one less, or nothing.
func TestBuildOfRanks(t *testing.T) {
	met := map[bool]int{}
	for _, cols := range []int{1, 2, 3, 8, 31, 63, 64} {
		for _, rows := range []int{cols, cols + 1, 64} {
			if rows > 64 {
				continue
			}
			tall := slow(rows, cols, func(i, j int) byte { return oneIf(i%cols == j) * byte(1+i%255) })
			met[buildModelled(t, "full rank", used(explicit(tall)))]++
			for _, at := range []int{0, cols / 2, cols - 1} {
				less := slow(rows, cols, func(i, j int) byte { return entry(tall, i, j) * oneIf(j != at) })
				buildFails(t, "a column of noughts", used(explicit(less)), api.ErrSingular)
				twice := slow(rows, cols, func(i, j int) byte {
					if j == at && cols > 1 {
						return products[3][entry(tall, i, (at+1)%cols)]
					}
					return entry(tall, i, j) * oneIf(cols > 1)
				})
				buildFails(t, "a column that is a multiple of another", used(explicit(twice)), api.ErrSingular)
				if slowRank(less) != cols-1 || slowRank(twice) != cols-1 {
					t.Errorf("the rank is not one less than %d", cols)
				}
			}
			buildFails(t, "noughts", used(explicit(noughts(rows, cols))), api.ErrSingular)
		}
	}
	if met[false] > 0 {
		t.Errorf("%d matrices are singular", met[false])
	}
}

// A row too few: as many rows as columns, of which one hangs on the others.
func TestBuildOfRowsThatHangTogether(t *testing.T) {
	for _, n := range []int{2, 3, 9, 64} {
		sum := slow(n, n, func(i, j int) byte {
			if i == n-1 {
				return oneIf(j < n-1)
			}
			return oneIf(i == j)
		})
		buildFails(t, "a sum of the others", used(explicit(sum)), api.ErrSingular)
		sum.Data[n*n-1] = 9
		buildModelled(t, "a sum and more", used(explicit(sum)))
	}
}

// A code is singular just if a part of it is; one that is not used is of no
// moment.
func TestBuildOfSingularParts(t *testing.T) {
	good, bad := explicit(of(2, 1, 2, 3, 4)), explicit(of(2, 1, 2, 2, 4))
	for _, kind := range []api.ShapeKind{api.SProduct, api.SJoin} {
		buildFails(t, "a singular first part", paired(kind, 0, 1, bad, good), api.ErrSingular)
		buildFails(t, "a singular second part", paired(kind, 0, 1, good, bad), api.ErrSingular)
		buildFails(t, "two singular parts", paired(kind, 0, 0, bad, good), api.ErrSingular)
		if !buildModelled(t, "singular codes beside", paired(kind, 1, 2, bad, good, good, bad)) {
			t.Errorf("a %s of good parts is singular", word(kind))
		}
		c := paired(kind, 0, 1, bad, good)
		c.Use, c.Domains = 1, 2
		if !buildModelled(t, "a singular code behind the used one", c) {
			t.Errorf("a code that is not used is asked for its rank")
		}
	}
	// A singular code that may not be told of is no fault of its rank.
	c := used(bad)
	c.Domains = 0
	buildFails(t, "a singular code with no domain", c, api.ErrArg)
	c = used(bad, api.CoreCode{})
	c.Use, c.Domains = 0, 2
	buildFails(t, "a singular code with a wrong one beside it", c, api.ErrArg)
}

func TestBuildOfAnyCores(t *testing.T) {
	met := map[bool]int{}
	for seed := range 3000 {
		text, c := written(seed)
		met[buildModelled(t, text, c)]++
	}
	if met[true] < 1000 || met[false] < 100 {
		t.Errorf("%d cores have a layout, %d have none", met[true], met[false])
	}
}
