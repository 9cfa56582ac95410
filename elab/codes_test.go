package elab_test

import (
	"fmt"
	"math"
	"slices"
	"testing"

	"recoup/api"
	"recoup/elab"
)

// P17.1: the codes of a core.

func codesAre(t *testing.T, what string, c api.Core, want ...api.Code) {
	t.Helper()
	if got, e := elab.Codes(c); shown(got) != shown(want) || e != api.OK {
		t.Errorf("Codes of %s = %s, %v; want %s", short(what), short(shown(got)), e, short(shown(want)))
	}
}

// codesModelled holds the codes of a core against those made in a slow way.
func codesModelled(t *testing.T, what string, c api.Core) {
	t.Helper()
	codesAre(t, what, c, slowCodes(c)...)
}

func TestCodesKnown(t *testing.T) {
	codesAre(t, "one of each kind of numbers", used(reed(2, 1), two(api.SCross, 2, 1), three(api.SLocal, 4, 2, 0), three(api.SPyramid, 2, 1, 1)),
		code(of(2, 1, 0, 0, 1, 3, 2)),
		code(of(2, 1, 0, 0, 1, 142, 244)),
		code(of(4, 1, 0, 0, 0, 0, 1, 0, 0, 0, 0, 1, 0, 0, 0, 0, 1, 1, 1, 0, 0, 0, 0, 1, 1), set(0, 1, 4), set(2, 3, 5)),
		code(of(2, 1, 0, 0, 1, 142, 244, 244, 142), set(0, 1, 2)))
	codesAre(t, "a product", paired(api.SProduct, 0, 1, explicit(of(1, 1, 1)), explicit(of(1, 1, 2))),
		code(of(1, 1, 1)), code(of(1, 1, 2)), code(of(1, 1, 2, 1, 2)))
	codesAre(t, "a join", paired(api.SJoin, 0, 1, three(api.SLocal, 1, 1, 0), explicit(of(1, 3))),
		code(of(1, 1, 1), set(0, 1)), code(of(1, 3)), code(of(2, 1, 0, 1, 0, 0, 3), set(0, 1)))
}

// Which part is A, and which is B.
func TestCodesOfPartsEitherWay(t *testing.T) {
	parts := []api.CoreCode{three(api.SLocal, 2, 1, 1), three(api.SPyramid, 2, 2, 0), explicit(of(2, 1, 2, 3, 4, 5, 6)), reed(1, 2)}
	for _, kind := range []api.ShapeKind{api.SProduct, api.SJoin} {
		for a := range parts {
			for b := range parts {
				codesModelled(t, fmt.Sprint(word(kind), a, b), paired(kind, a, b, slices.Clone(parts)...))
			}
		}
	}
}

func TestCodesOfEachSize(t *testing.T) {
	for n := 1; n <= api.MaxSide; n++ {
		for k := 1; k <= n; k += 1 + n/9 {
			codesModelled(t, fmt.Sprint("reed and cross of ", k, " and ", n-k), used(reed(k, n-k), two(api.SCross, k, n-k)))
			for _, l := range []int{1, 2, 3, k} {
				if k%l == 0 && k+l <= n {
					codesModelled(t, fmt.Sprint("local and pyramid of ", k, ", ", l, " and ", n-k-l), used(three(api.SLocal, k, l, n-k-l), three(api.SPyramid, k, l, n-k-l)))
				}
			}
			codesModelled(t, fmt.Sprint("a matrix of ", n, " and ", k), used(explicit(slow(n, k, func(i, j int) byte { return byte(i*7 + j*j) }))))
		}
	}
}

// Codes of codes of codes: each level is made of those ahead, twice the same
// place, or far apart.
func TestCodesOfCodesOfCodes(t *testing.T) {
	l := []api.CoreCode{three(api.SLocal, 1, 1, 0)}
	for at := range 5 {
		l = append(l, pair(l, api.SProduct, at, 0))
	}
	codesModelled(t, "a product of six", used(l...))
	l = []api.CoreCode{three(api.SPyramid, 1, 1, 0)}
	for at := range 5 {
		l = append(l, pair(l, api.SJoin, at, at))
	}
	codesModelled(t, "a join of 32", used(l...))
	l = []api.CoreCode{reed(2, 1), three(api.SLocal, 2, 1, 0), explicit(of(1, 0, 7))}
	l = append(l, pair(l, api.SProduct, 1, 2))
	l = append(l, pair(l, api.SJoin, 3, 0))
	l = append(l, pair(l, api.SProduct, 2, 4), pair(l, api.SJoin, 4, 4))
	l = append(l, pair(l, api.SJoin, 6, 5))
	codesModelled(t, "products and joins of each other", used(l...))
}

// Each code is answered, in order, whichever is used and whether it is
// singular or not.
func TestCodesWhicheverIsUsed(t *testing.T) {
	l := []api.CoreCode{explicit(noughts(2, 2)), reed(2, 2), explicit(of(1, 0)), reed(2, 2)}
	l = append(l, pair(l, api.SProduct, 1, 2), pair(l, api.SJoin, 0, 3))
	for use := range l {
		c := used(l...)
		c.Use = use
		codesModelled(t, fmt.Sprint("a core that uses ", use), c)
	}
}

func TestCodesOfMany(t *testing.T) {
	for _, count := range []int{1, 2, 65, api.MaxNodes} {
		l := []api.CoreCode{explicit(of(1, 7))}
		for len(l) < count {
			if len(l)%2 == 0 {
				l = append(l, pair(l, api.SProduct, len(l)-1, 0))
			} else {
				l = append(l, explicit(of(1, byte(len(l)))))
			}
		}
		codesModelled(t, fmt.Sprint(count, " codes"), used(l...))
	}
}

func TestCodesOfAnyCores(t *testing.T) {
	for seed := range 1500 {
		text, c := written(seed)
		codesModelled(t, text, c)
	}
}

// turned is a core with something else in it.
func turned(c api.Core, turn func(c *api.Core)) api.Core {
	c.Codes, c.List = slices.Clone(c.Codes), slices.Clone(c.List)
	turn(&c)
	return c
}

// full is a core with a code of each kind, of which the last one, of 13 blocks,
// is used.
func full() api.Core {
	l := []api.CoreCode{
		reed(1, 2), two(api.SCross, 2, 0), three(api.SLocal, 4, 2, 1), three(api.SPyramid, 3, 1, 2),
		explicit(of(2, 1, 2, 3, 4, 0, 255)),
	}
	l = append(l, pair(l, api.SProduct, 0, 1))
	c := paired(api.SJoin, 5, 2, l...)
	c.Domains, c.Tolerate = 7, 2
	return c
}

// wrongTurns make of that core one that may not be.
func wrongTurns() map[string]func(c *api.Core) {
	turns := map[string]func(c *api.Core){
		"nothing at all":            func(c *api.Core) { *c = api.Core{} },
		"no codes":                  func(c *api.Core) { c.Codes = nil },
		"the place of no part":      func(c *api.Core) { c.Codes[5].B = -1 },
		"its own place":             func(c *api.Core) { c.Codes[5].A = 5 },
		"a place behind":            func(c *api.Core) { c.Codes[5].B = 6 },
		"a matrix of no rows":       func(c *api.Core) { c.Codes[4] = explicit(api.Matrix{}) },
		"a matrix of no columns":    func(c *api.Core) { c.Codes[4] = explicit(api.Matrix{Rows: 3}) },
		"a matrix of few rows":      func(c *api.Core) { c.Codes[4] = explicit(of(2, 1, 2)) },
		"a matrix of many rows":     func(c *api.Core) { c.Codes[4] = explicit(noughts(65, 1)) },
		"a matrix with little":      func(c *api.Core) { c.Codes[4].G.Data = []byte{1, 2, 3, 4, 5} },
		"a matrix with much":        func(c *api.Core) { c.Codes[4].G.Data = make([]byte, 7) },
		"a matrix of less than 0":   func(c *api.Core) { c.Codes[4] = explicit(api.Matrix{Rows: -1, Cols: -1, Data: []byte{1}}) },
		"a matrix that comes round": func(c *api.Core) { c.Codes[4] = explicit(api.Matrix{Rows: 1 << 32, Cols: 1 << 32}) },
		"a matrix of two numbers":   func(c *api.Core) { c.Codes[0].G = of(1, 1) },
		"data of a product":         func(c *api.Core) { c.Codes[5].G.Data = []byte{0} },
		"a third number of two":     func(c *api.Core) { c.Codes[1].C = 1 },
		"a number of a matrix":      func(c *api.Core) { c.Codes[4].A = 1 },
		"a third number of a join":  func(c *api.Core) { c.Codes[6].C = -1 },
		"a spiral without a step":   func(c *api.Core) { c.Place = api.PSpiral },
		"a list without numbers":    func(c *api.Core) { c.Place = api.PList },
		"a row with a step":         func(c *api.Core) { c.Step = 1 },
		"a spread with a step":      func(c *api.Core) { c.Place, c.Step = api.PSpread, 1 },
		"a row with a list":         func(c *api.Core) { c.List = make([]int, 13) },
		"a spiral with a list":      func(c *api.Core) { c.Place, c.Step, c.List = api.PSpiral, 1, make([]int, 13) },
		"a list with a step":        func(c *api.Core) { c.Place, c.Step, c.List = api.PList, 1, make([]int, 13) },
		"a list that is short":      func(c *api.Core) { c.Place, c.List = api.PList, make([]int, 12) },
		"a list that is long":       func(c *api.Core) { c.Place, c.List = api.PList, make([]int, 14) },
		"too many codes":            func(c *api.Core) { c.Codes = append(c.Codes, slices.Repeat(c.Codes[:1], api.MaxNodes)...) },
		"too many sets":             func(c *api.Core) { *c = used(reed(8, 7)); c.Tolerate = 8 },
		"far too many sets":         func(c *api.Core) { *c = used(reed(32, 32)); c.Tolerate = 64 },
		"a product beyond":          func(c *api.Core) { *c = paired(api.SProduct, 0, 1, reed(5, 0), reed(13, 0)); c.Domains = 1 },
		"a join beyond":             func(c *api.Core) { *c = paired(api.SJoin, 0, 1, reed(32, 0), reed(33, 0)); c.Domains = 1 },
	}
	for _, n := range []int{-1, 7, math.MaxInt, math.MinInt} {
		turns[fmt.Sprint("the use of ", n)] = func(c *api.Core) { c.Use = n }
	}
	for _, n := range []int{0, -1, 65, math.MaxInt, math.MinInt} {
		turns[fmt.Sprint(n, " domains")] = func(c *api.Core) { c.Domains = n }
	}
	for _, n := range []int{-1, 14, math.MaxInt, math.MinInt} {
		turns[fmt.Sprint("the tolerance of ", n)] = func(c *api.Core) { c.Tolerate = n }
	}
	for _, n := range []int{-1, api.MaxNumber + 1, math.MaxInt, math.MinInt} {
		turns[fmt.Sprint("a spiral of the step ", n)] = func(c *api.Core) { c.Place, c.Step = api.PSpiral, n }
	}
	for _, n := range []int{-1, 7, 64, math.MaxInt, math.MinInt} {
		turns[fmt.Sprint("a list with ", n)] = func(c *api.Core) { c.Place, c.List = api.PList, []int{0, 0, 0, 0, 0, 0, 0, n, 0, 0, 0, 0, 0} }
	}
	for _, kind := range []api.PlaceKind{api.NoPlace, 5, 255} {
		turns[fmt.Sprint("a place of the kind ", kind)] = func(c *api.Core) { c.Place = kind }
	}
	for i := range full().Codes {
		for _, kind := range []api.ShapeKind{api.NoShape, api.SName, 9, 255} {
			turns[fmt.Sprint("the kind ", kind, " of ", i)] = func(c *api.Core) { c.Codes[i].Kind = kind }
		}
		for _, n := range []int{1, -1, math.MaxInt, math.MinInt} {
			turns[fmt.Sprint("the N of ", i, " and ", n)] = func(c *api.Core) { c.Codes[i].N += n }
			turns[fmt.Sprint("the K of ", i, " and ", n)] = func(c *api.Core) { c.Codes[i].K += n }
		}
	}
	for i, c := range wrongNumbers() {
		turns[fmt.Sprint("wrong numbers, of ", i)] = func(core *api.Core) { core.Codes = append(core.Codes, c) }
		turns[fmt.Sprint("wrong numbers, used, of ", i)] = func(core *api.Core) {
			core.Codes, core.Use = append(core.Codes, c), len(core.Codes)
			core.Tolerate = 0
		}
	}
	return turns
}

// wrongNumbers are codes by numbers that their kinds do not take.
func wrongNumbers() []api.CoreCode {
	var made []api.CoreCode
	for _, l := range [][2]int{{0, 1}, {-1, 2}, {1, -1}, {65, 0}, {64, 1}, {1, 64}, {65, -1}, {math.MaxInt, math.MaxInt}, {math.MaxInt, 1}, {math.MinInt, math.MinInt}, {1 << 62, 1 << 62}} {
		made = append(made, two(api.SReed, l[0], l[1]), two(api.SCross, l[0], l[1]))
	}
	for _, l := range [][3]int{{0, 1, 1}, {1, 0, 1}, {4, 3, 1}, {2, 4, 1}, {4, 2, -1}, {-4, -2, 9}, {62, 2, 1}, {64, 1, 0}, {33, 33, 0}, {math.MinInt, -1, 1}, {math.MaxInt, 1, 0}, {1, 1, math.MaxInt}, {math.MaxInt, math.MaxInt, math.MaxInt}} {
		made = append(made, three(api.SLocal, l[0], l[1], l[2]), three(api.SPyramid, l[0], l[1], l[2]))
	}
	return made
}

// P17.1, P17.2: of a core that may not be there is ErrArg, and nothing else.
func TestCoresThatMayNotBe(t *testing.T) {
	codesModelled(t, "the core that is turned", full())
	for what, turn := range wrongTurns() {
		c := turned(full(), turn)
		if got, e := elab.Codes(c); len(got) != 0 || e != api.ErrArg {
			t.Errorf("Codes of %s = %s, %v", what, short(shown(got)), e)
		}
		if got, e := elab.Build(c); shown(got) != shown(api.Layout{}) || e != api.ErrArg {
			t.Errorf("Build of %s = %s, %v", what, short(shown(got)), e)
		}
	}
}
