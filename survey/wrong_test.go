package survey_test

import (
	"math"
	"slices"
	"testing"

	"recoup/api"
	"recoup/elab"
	"recoup/shape"
	"recoup/survey"
)

// isRefused tells where a layout that may not be is not refused by all calls, or
// where something stands beside an error.
func isRefused(t *testing.T, name string, l api.Layout) {
	t.Helper()
	for s, ok := range survey.Patterns(l) {
		t.Errorf("%s: the pattern %v, %v", name, numbersOf(s), ok)
	}
	if r, e := survey.Look(l); e != api.ErrArg || !sameReport(r, api.Report{}) {
		t.Errorf("%s: Look = %v, %v", name, r, e)
	}
	for _, domains := range []api.Set{0, 1, 2, 1 << 63, math.MaxUint64} {
		if ok, e := survey.Survives(l, domains); ok || e != api.ErrArg {
			t.Errorf("%s: Survives of %v = %v, %v", name, numbersOf(domains), ok, e)
		}
	}
}

// edges are numbers as great and as small as an int can be, and those beside
// what may be.
func edges() []int {
	return []int{math.MinInt, math.MinInt + 1, math.MinInt32, -64, -2, -1, 65, 66, 128, 4096, math.MaxInt32, 1 << 32, math.MaxInt - 1, math.MaxInt}
}

// turned is a layout of six blocks and two groups with something else in it.
func turned(turn func(l *api.Layout)) api.Layout {
	c := must(shape.Local(4, 2, 0))
	l := api.Layout{Code: c, Homes: []int{0, 3, 1, 3, 2, 0}, Domains: 4, Tolerate: 2}
	turn(&l)
	return l
}

func TestTheLayoutThatIsTurnedMayBe(t *testing.T) {
	l := turned(func(*api.Layout) {})
	r, e := survey.Look(l)
	if ok, also := survey.Survives(l, 0); e != api.OK || also != api.OK || !ok || r.Looked != 22 {
		t.Errorf("Look = %v, %v; Survives = %v, %v", r, e, ok, also)
	}
}

func TestLayoutsThatMayNotBe(t *testing.T) {
	isRefused(t, "nothing", api.Layout{})
	for name, turn := range map[string]func(l *api.Layout){
		"no homes":                 func(l *api.Layout) { l.Homes = nil },
		"a home less":              func(l *api.Layout) { l.Homes = l.Homes[:5] },
		"a home more":              func(l *api.Layout) { l.Homes = append(l.Homes, 0) },
		"a home that is not there": func(l *api.Layout) { l.Homes[2] = 4 },
		"a home below 0":           func(l *api.Layout) { l.Homes[5] = -1 },
		"no domains":               func(l *api.Layout) { l.Domains = 0 },
		"a domain less":            func(l *api.Layout) { l.Domains = 3 },
		"more lost than there are": func(l *api.Layout) { l.Tolerate = 7 },
		"a block less":             func(l *api.Layout) { l.Code.G.Rows, l.Code.G.Data = 5, l.Code.G.Data[:20] },
		"an element less":          func(l *api.Layout) { l.Code.G.Data = l.Code.G.Data[:23] },
		"an element more":          func(l *api.Layout) { l.Code.G.Data = append(l.Code.G.Data, 1) },
		"no elements":              func(l *api.Layout) { l.Code.G.Data = nil },
		"no matrix":                func(l *api.Layout) { l.Code.G = api.Matrix{} },
		"a group that is none":     func(l *api.Layout) { l.Code.Groups[0] = set(0, 1) },
		"a group of no blocks":     func(l *api.Layout) { l.Code.Groups = setsOf([]int{63}) },
		"noughts":                  func(l *api.Layout) { clear(l.Code.G.Data); l.Code.Groups = nil },
		"a data block nowhere": func(l *api.Layout) {
			l.Code = api.Code{G: slow(6, 4, func(i, j int) byte { return oneIf(i == j && j != 2) })}
		},
		"more columns than rows": func(l *api.Layout) {
			l.Code, l.Homes = api.Code{G: of(2, 1, 1)}, []int{0}
		},
		"no columns": func(l *api.Layout) { l.Code = api.Code{G: noughts(6, 0)} },
		"16385 and more patterns": func(l *api.Layout) {
			l.Code, l.Homes, l.Tolerate = must(shape.Reed(5, 10)), make([]int, 15), 8
		},
		"all patterns of 64 blocks": func(l *api.Layout) {
			l.Code, l.Homes, l.Tolerate = must(shape.Reed(5, 59)), make([]int, 64), 64
		},
		"65 blocks": func(l *api.Layout) {
			l.Code, l.Homes, l.Tolerate = api.Code{G: slow(65, 1, func(_, _ int) byte { return 1 })}, make([]int, 65), 0
		},
	} {
		isRefused(t, name, turned(turn))
	}
}

func TestLayoutsOfNumbersThatMayNotBe(t *testing.T) {
	for _, n := range edges() {
		for b := range 6 {
			isRefused(t, "a home", turned(func(l *api.Layout) { l.Homes[b] = n }))
		}
		isRefused(t, "domains", turned(func(l *api.Layout) { l.Domains = n }))
		isRefused(t, "domains without blocks", api.Layout{Domains: n})
		isRefused(t, "tolerate", turned(func(l *api.Layout) { l.Tolerate = n }))
		isRefused(t, "rows", turned(func(l *api.Layout) { l.Code.G.Rows = n }))
		isRefused(t, "columns", turned(func(l *api.Layout) { l.Code.G.Cols = n }))
		isRefused(t, "all of them", turned(func(l *api.Layout) { l.Code.G.Rows, l.Code.G.Cols, l.Domains, l.Tolerate = n, n, n, n }))
		isRefused(t, "nothing but numbers", api.Layout{Code: api.Code{G: api.Matrix{Rows: n, Cols: n}}, Domains: n, Tolerate: n})
	}
}

// notRight are matrices that are not right: by a side, by both, by Data.
func notRight() []api.Matrix {
	matrices := []api.Matrix{
		{Rows: -2, Cols: -2, Data: []byte{1, 0, 0, 1}},
		{Rows: 65, Cols: 65, Data: identity(65).Data},
		{Rows: 65, Cols: 1, Data: seeded(1).list(65)},
		{Rows: 1, Cols: 65, Data: seeded(1).list(65)},
		// Sides whose product comes round to 0, or to 1.
		{Rows: math.MinInt, Cols: 2},
		{Rows: 2, Cols: math.MinInt},
		{Rows: 1 << 32, Cols: 1 << 32},
		{Rows: math.MaxInt, Cols: math.MaxInt, Data: []byte{1}},
	}
	for _, n := range edges() {
		matrices = append(matrices, api.Matrix{Rows: n}, api.Matrix{Cols: n})
		for _, other := range append(edges(), 0, 1, 2, 64) {
			matrices = append(matrices,
				api.Matrix{Rows: n, Cols: other, Data: []byte{1}},
				api.Matrix{Rows: other, Cols: n, Data: []byte{1, 2}})
		}
	}
	for _, side := range []int{1, 2, 3, 8, 63, 64} {
		full := identity(side).Data
		matrices = append(matrices,
			api.Matrix{Rows: side, Cols: side, Data: append(full, 1)},
			api.Matrix{Rows: side, Cols: side, Data: full[:len(full)-1]},
			api.Matrix{Rows: side, Cols: side},
			api.Matrix{Rows: side, Cols: 1, Data: seeded(side).list(side + 1)})
	}
	return matrices
}

// noGenerators are right, but without columns, or with too few rows.
func noGenerators() []api.Matrix {
	var matrices []api.Matrix
	for _, rows := range []int{0, 1, 2, 63, 64} {
		matrices = append(matrices, noughts(rows, 0))
	}
	for _, sides := range [][2]int{{0, 1}, {0, 64}, {1, 2}, {1, 64}, {4, 5}, {62, 63}, {63, 64}} {
		matrices = append(matrices,
			noughts(sides[0], sides[1]),
			slow(sides[0], sides[1], func(i, j int) byte { return oneIf(i == j) }))
	}
	return matrices
}

// ErrShape is told ahead of the other errors.
func TestDistanceOfWhatIsNoGenerator(t *testing.T) {
	for _, g := range slices.Concat(notRight(), noGenerators()) {
		for _, most := range append(edges(), 0, 1, 2, 3, 63, 64) {
			distanceIs(t, "no generator", g, most, 0, api.ErrShape)
		}
	}
}

// ErrArg is told of each number below 0, of every generator, also of one that is
// not recovered with none lost.
func TestDistanceUpToLessThanNothing(t *testing.T) {
	for _, g := range []api.Matrix{of(1, 1), of(1, 0), of(2, 1, 0, 0, 1, 3, 2), identity(64), noughts(64, 1), noughts(64, 64), seeded64()} {
		for _, most := range edges() {
			if most < 0 {
				distanceIs(t, "below 0", g, most, 0, api.ErrArg)
			}
		}
	}
}

// seeded64 is a generator of 64 blocks of any elements.
func seeded64() api.Matrix {
	return api.Matrix{Rows: 64, Cols: 20, Data: seeded(64).list(64 * 20)}
}

// change makes one thing of a layout another one.
func (s *source) change(l *api.Layout) {
	numbers := append(edges(), 0, 1, 2, 3, l.Domains-1, l.Domains, l.Code.G.Rows, l.Code.G.Rows+1)
	switch s.below(8) {
	case 0:
		l.Domains = one(s, numbers)
	case 1:
		l.Tolerate = one(s, numbers)
	case 2:
		if len(l.Homes) > 0 {
			l.Homes[s.below(len(l.Homes))] = one(s, numbers)
		}
	case 3:
		l.Homes = append(l.Homes, 0)
	case 4:
		l.Homes = l.Homes[:max(0, len(l.Homes)-s.below(2))]
	case 5:
		if data := l.Code.G.Data; len(data) > 0 {
			data[s.below(len(data))] = one(s, []byte{0, 1, byte(s.below(256))})
		}
	case 6:
		l.Code.Groups = append(l.Code.Groups, api.Set(s.below(64)))
	case 7:
		l.Code.Groups = nil
	}
}

// Anything at all is answered as the document says.
func TestAnythingAtAll(t *testing.T) {
	found := map[bool]int{}
	all := codes()
	for seed := range 4000 {
		s := seeded(seed)
		k := one(s, all)
		k.c.G.Data, k.c.Groups = slices.Clone(k.c.G.Data), slices.Clone(k.c.Groups)
		l := laid(k, one(s, places(k.c.G.Rows)), s.below(min(k.c.G.Rows, 4)+1))
		for range s.below(4) {
			s.change(&l)
		}
		may := elab.May(l)
		found[may]++
		if !may {
			isRefused(t, k.name, l)
			continue
		}
		recovers := known(k.name, l.Code).recovers
		lookIs(t, k.name, l, slowReport(l, recovers))
		for _, domains := range someDomains(l.Domains, seed) {
			survivesIs(t, k.name, l, domains, recovers(slowLost(l.Homes, domains)))
		}
	}
	if found[true] < 1000 || found[false] < 1000 {
		t.Errorf("%d of the layouts may be, %d may not", found[true], found[false])
	}
}
