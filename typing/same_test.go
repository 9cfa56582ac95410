package typing_test

import (
	"slices"
	"testing"

	"recoup/api"
	"recoup/typing"
)

// P14.2: which cores are the same.

func sameIs(t *testing.T, what string, want bool, a, b api.Core) {
	t.Helper()
	if typing.Same(a, b) != want || typing.Same(b, a) != want {
		t.Errorf("Same of %s is not %v: %s and %s", what, want, short(shown(a)), short(shown(b)))
	}
	if !typing.Same(a, a) || !typing.Same(b, b) {
		t.Errorf("%s is not the same as itself", what)
	}
}

func TestSame(t *testing.T) {
	sameIs(t, "two of nothing", true, api.Core{}, api.Core{})
	sameIs(t, "a core and one like it", true, full(), full())
	sameIs(t, "a core and nothing", false, full(), api.Core{})
	l := placed(api.PList, 3, 1, 2, 3)
	sameIs(t, "a core and one like it", true, l, placed(api.PList, 3, 1, 2, 3))
}

// Whatever one thing is another: whether the cores may be is not asked.
func TestSameOfWhatDiffersInOneThing(t *testing.T) {
	base := func() api.Core { return placed(api.PList, 3, 1, 2, 3) }
	for what, turn := range map[string]func(c *api.Core){
		"the use":           func(c *api.Core) { c.Use++ },
		"the domains":       func(c *api.Core) { c.Domains = -1 },
		"the place":         func(c *api.Core) { c.Place = api.PSpiral },
		"the step":          func(c *api.Core) { c.Step = 0 },
		"the tolerance":     func(c *api.Core) { c.Tolerate = 1 << 40 },
		"no list":           func(c *api.Core) { c.List = nil },
		"a longer list":     func(c *api.Core) { c.List = list(1, 2, 3, 0) },
		"a shorter list":    func(c *api.Core) { c.List = list(1, 2) },
		"another list":      func(c *api.Core) { c.List = list(1, 2, 4) },
		"a list turned":     func(c *api.Core) { c.List = list(3, 2, 1) },
		"no codes":          func(c *api.Core) { c.Codes = nil },
		"one code less":     func(c *api.Core) { c.Codes = c.Codes[:6] },
		"one code more":     func(c *api.Core) { c.Codes = append(c.Codes, api.CoreCode{}) },
		"codes turned":      func(c *api.Core) { slices.Reverse(c.Codes) },
		"the first one":     func(c *api.Core) { c.Codes = c.Codes[1:] },
		"a code of nothing": func(c *api.Core) { c.Codes[3] = api.CoreCode{} },
	} {
		c := base()
		turn(&c)
		sameIs(t, what, false, base(), c)
	}
	for i := range base().Codes {
		for what, turn := range map[string]func(c *api.CoreCode){
			"the kind":       func(c *api.CoreCode) { c.Kind ^= 1 },
			"no kind":        func(c *api.CoreCode) { c.Kind = api.NoShape },
			"A":              func(c *api.CoreCode) { c.A++ },
			"B":              func(c *api.CoreCode) { c.B++ },
			"C":              func(c *api.CoreCode) { c.C++ },
			"N":              func(c *api.CoreCode) { c.N-- },
			"K":              func(c *api.CoreCode) { c.K-- },
			"the rows":       func(c *api.CoreCode) { c.G.Rows++ },
			"the columns":    func(c *api.CoreCode) { c.G.Cols++ },
			"more elements":  func(c *api.CoreCode) { c.G.Data = append(slices.Clone(c.G.Data), 0) },
			"other elements": func(c *api.CoreCode) { c.G.Data = append([]byte{9}, c.G.Data[:max(1, len(c.G.Data))-1]...) },
		} {
			c := base()
			turn(&c.Codes[i])
			sameIs(t, what, false, base(), c)
		}
	}
	for i := range 6 {
		c := base()
		c.Codes[4].G.Data[i] ^= 128
		sameIs(t, "one element", false, base(), c)
	}
	turned := base()
	g := &turned.Codes[4].G
	g.Rows, g.Cols = g.Cols, g.Rows
	sameIs(t, "the same elements in other rows", false, base(), turned)
}

func TestSameOfEmptyLists(t *testing.T) {
	empty := turned(func(c *api.Core) {
		c.List = []int{}
		for i := range c.Codes {
			if c.Codes[i].Kind != api.SMatrix {
				c.Codes[i].G.Data = []byte{}
			}
		}
	})
	sameIs(t, "nil and empty lists", true, full(), empty)
	sameIs(t, "nil and empty codes", true, api.Core{}, api.Core{Codes: []api.CoreCode{}, List: []int{}})
	sameIs(t, "a list of one nought", false, full(), turned(func(c *api.Core) { c.List = list(0) }))
	sameIs(t, "a code of nothing", false, api.Core{}, api.Core{Codes: []api.CoreCode{{}}})
	sameIs(t, "an element of nought", false, full(), turned(func(c *api.Core) { c.Codes[0].G.Data = []byte{0} }))
	mayBe(t, "empty lists", true, empty)
}

// What lies behind the end of a list is of no moment.
func TestSameOfListsWithRoom(t *testing.T) {
	sameIs(t, "room behind lists", true, full(), turned(func(c *api.Core) {
		c.Codes = append(c.Codes, reed(9, 9))[:7]
		c.List = list(7, 8)[:0]
		c.Codes[4].G.Data = append(c.Codes[4].G.Data, 5)[:6]
	}))
}

// Cores are the same just if all that can be shown of them is.
func TestSameOfAnyCores(t *testing.T) {
	met := map[bool]int{}
	for seed := range 1500 {
		_, c := written(seed)
		_, again := written(seed)
		sameIs(t, "a core, made twice", true, c, again)
		s := seeded(seed + 3000000)
		for range 10 {
			a, b := s.changed(c), s.changed(again)
			sameIs(t, "two changed cores", shown(a) == shown(b), a, b)
			want := shown(a) == shown(c)
			sameIs(t, "a core and what it was", want, a, c)
			met[want]++
		}
	}
	if met[true] < 1000 || met[false] < 1000 {
		t.Errorf("%d of the cores are the same, %d are not", met[true], met[false])
	}
}
