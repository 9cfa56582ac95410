package typing_test

import (
	"fmt"
	"math"
	"slices"
	"strings"
	"testing"

	"recoup/api"
	"recoup/parse"
	"recoup/typing"
)

// P14.2: which cores may be.

func mayBe(t *testing.T, what string, want bool, c api.Core) {
	t.Helper()
	if got := typing.May(c); got != want {
		t.Errorf("May of %s = %v; want %v: %s", what, got, want, short(shown(c)))
	}
}

// full is a core with a code of each kind, of which the last one, of 13 blocks,
// is used. No code of two numbers could be one of three, or the other way round.
func full() api.Core {
	return api.Core{
		Codes: []api.CoreCode{
			reed(1, 2), two(api.SCross, 2, 0), three(api.SLocal, 4, 2, 1), three(api.SPyramid, 3, 1, 2),
			rows([]byte{1, 2}, []byte{3, 4}, []byte{0, 255}), pair(api.SProduct, 0, 1, 6, 2), pair(api.SJoin, 5, 2, 13, 6),
		},
		Use: 6, Domains: 7, Place: api.PRow, Tolerate: 2,
	}
}

// turned is that core with something else in it.
func turned(turn func(c *api.Core)) api.Core {
	c := full()
	turn(&c)
	return c
}

func placed(place api.PlaceKind, step int, l ...int) api.Core {
	c := full()
	c.Place, c.Step, c.List = place, step, l
	return c
}

func TestMay(t *testing.T) {
	mayBe(t, "a core", true, full())
	mayBe(t, "the core of nothing", false, api.Core{})
	mayBe(t, "no codes", false, api.Core{Domains: 1, Place: api.PRow})
	for use := range full().Codes {
		mayBe(t, "each code in use", true, turned(func(c *api.Core) { c.Use = use }))
	}
	for _, use := range []int{-1, 7, math.MaxInt, math.MinInt} {
		mayBe(t, "a use of no code", false, turned(func(c *api.Core) { c.Use = use }))
	}
	for domains, want := range map[int]bool{1: true, 2: true, 63: true, 64: true, 0: false, 65: false, -1: false, math.MaxInt: false, math.MinInt: false} {
		mayBe(t, "domains", want, turned(func(c *api.Core) { c.Domains = domains }))
	}
	for tolerate, want := range map[int]bool{0: true, 1: true, 13: true, 14: false, -1: false, math.MaxInt: false, math.MinInt: false} {
		mayBe(t, "a tolerance", want, turned(func(c *api.Core) { c.Tolerate = tolerate }))
	}
}

func TestMayOfSizes(t *testing.T) {
	// A code that is used, or is not.
	sizeMay := func(what string, want bool, c api.CoreCode) {
		t.Helper()
		mayBe(t, what, want, api.Core{Codes: []api.CoreCode{c}, Domains: 1, Place: api.PRow})
		mayBe(t, what+" of a code that is not used", want, used(c, reed(1, 0)))
	}
	for _, kind := range []api.ShapeKind{api.SReed, api.SCross} {
		for _, l := range [][3]int{{1, 0, 1}, {64, 0, 1}, {1, 63, 1}, {0, 1, 0}, {0, 0, 0}, {-1, 2, 0}, {1, -1, 0}, {65, -1, 0}, {65, 0, 0}, {64, 1, 0}, {1, 64, 0},
			{math.MaxInt, math.MaxInt, 0}, {math.MaxInt, 1, 0}, {1, math.MaxInt, 0}, {1 << 62, 1 << 62, 0}, {math.MinInt, math.MinInt, 0}, {math.MinInt, math.MaxInt, 0}} {
			sizeMay("two numbers", l[2] == 1, two(kind, l[0], l[1]))
		}
	}
	const third = (1<<64 - 1) / 3 // three of it, and four more, come round to 3
	for _, kind := range []api.ShapeKind{api.SLocal, api.SPyramid} {
		for _, l := range [][4]int{{1, 1, 0, 1}, {63, 1, 0, 1}, {32, 32, 0, 1}, {1, 1, 62, 1}, {62, 2, 0, 1}, {6, 3, 2, 1}, {0, 1, 1, 0}, {1, 0, 1, 0}, {4, 3, 1, 0}, {4, -2, 1, 0}, {-4, -2, 9, 0}, {-4, 2, 9, 0},
			{2, 4, 1, 0}, {4, 2, -1, 0}, {62, 2, 1, 0}, {64, 1, 0, 0}, {64, 64, -64, 0}, {33, 33, 0, 0}, {math.MinInt, -1, 1, 0}, {math.MaxInt, 1, 0, 0},
			{1, 1, math.MaxInt, 0}, {math.MaxInt, math.MaxInt, math.MaxInt, 0}, {1 << 62, 1 << 62, math.MaxInt, 0}, {third, third, third + 4, 0}} {
			sizeMay("three numbers", l[3] == 1, three(kind, l[0], l[1], l[2]))
		}
	}
}

func TestMayOfPairs(t *testing.T) {
	of := func(kind api.ShapeKind, first, second int) api.Core {
		n, k := first*second, first*second
		if kind == api.SJoin {
			n, k = first+second, first+second
		}
		return used(reed(first, 0), reed(second, 0), pair(kind, 0, 1, n, k))
	}
	for _, l := range [][3]int{{1, 1, 1}, {8, 8, 1}, {64, 1, 1}, {1, 64, 1}, {9, 7, 1}, {5, 13, 0}, {64, 2, 0}, {64, 64, 0}, {65, 1, 0}} {
		c := of(api.SProduct, l[0], l[1])
		c.Domains = 1
		mayBe(t, "a product", l[2] == 1, c)
	}
	for _, l := range [][3]int{{1, 1, 1}, {32, 32, 1}, {63, 1, 1}, {1, 63, 1}, {33, 32, 0}, {64, 1, 0}, {1, 64, 0}, {64, 64, 0}} {
		c := of(api.SJoin, l[0], l[1])
		c.Domains = 1
		mayBe(t, "a join", l[2] == 1, c)
	}
}

// The places of a code's parts stand ahead of its own.
func TestMayOfPlaces(t *testing.T) {
	for place, kind := range map[int]api.ShapeKind{5: api.SProduct, 6: api.SJoin} {
		for _, wrong := range []int{-1, place, place + 1, 7, math.MaxInt, math.MinInt, 1 << 62} {
			mayBe(t, "a first part that is not ahead", false, turned(func(c *api.Core) { c.Codes[place].A = wrong }))
			mayBe(t, "a second part that is not ahead", false, turned(func(c *api.Core) { c.Codes[place].B = wrong }))
		}
		for a := range place {
			for b := range place {
				c := turned(func(c *api.Core) { c.Domains, c.Codes = 1, c.Codes[:place] })
				first, second := c.Codes[a], c.Codes[b]
				n, k := first.N*second.N, first.K*second.K
				if kind == api.SJoin {
					n, k = first.N+second.N, first.K+second.K
				}
				c.Codes = append(c.Codes, pair(kind, a, b, n, k))
				c.Use, c.Tolerate = place, 0
				mayBe(t, "parts that are ahead", n <= 64, c)
			}
		}
	}
	// A code that is alone, or of itself, or of one behind it.
	mayBe(t, "a product of itself", false, used(pair(api.SProduct, 0, 0, 1, 1)))
	mayBe(t, "a join of itself", false, used(pair(api.SJoin, 0, 0, 0, 0)))
	mayBe(t, "a product of one behind it", false, api.Core{Codes: []api.CoreCode{pair(api.SProduct, 1, 1, 1, 1), reed(1, 0)}, Use: 0, Domains: 1, Place: api.PRow})
	mayBe(t, "two of each other", false, used(pair(api.SProduct, 1, 1, 1, 1), pair(api.SProduct, 0, 0, 1, 1)))
}

func TestMayOfMatrices(t *testing.T) {
	for _, l := range [][4]int{
		{1, 1, 1, 1}, {64, 64, 4096, 1}, {64, 1, 64, 1}, {3, 2, 6, 1}, {3, 3, 9, 1},
		{0, 0, 0, 0}, {1, 0, 0, 0}, {0, 1, 0, 0}, {1, 2, 2, 0}, {63, 64, 4032, 0}, {65, 1, 65, 0}, {65, 65, 4225, 0},
		{3, 2, 5, 0}, {3, 2, 7, 0}, {3, 2, 0, 0}, {-1, -1, 1, 0}, {-2, -3, 6, 0}, {2, -1, 0, 0}, {1 << 32, 1 << 32, 0, 0}, {math.MaxInt, 1, 0, 0}, {math.MinInt, math.MinInt, 0, 0}, {math.MaxInt, math.MaxInt, 1, 0},
	} {
		g := api.Matrix{Rows: l[0], Cols: l[1], Data: make([]byte, l[2])}
		mayBe(t, "a matrix", l[3] == 1, api.Core{Codes: []api.CoreCode{{Kind: api.SMatrix, G: g, N: l[0], K: l[1]}}, Domains: 1, Place: api.PRow})
	}
	for i := range 256 {
		mayBe(t, "a matrix of each element", true, used(rows([]byte{byte(i)}, []byte{byte(255 - i)})))
	}
}

// What its kind does not name is zero.
func TestMayOfWhatMustBeZero(t *testing.T) {
	for i, code := range full().Codes {
		with := func(what string, turn func(c *api.CoreCode)) {
			mayBe(t, fmt.Sprint(what, " of the code ", i), false, turned(func(c *api.Core) { turn(&c.Codes[i]) }))
		}
		for _, n := range []int{1, -1, 64, math.MaxInt, math.MinInt} {
			with("an N that is another", func(c *api.CoreCode) { c.N += n })
			with("a K that is another", func(c *api.CoreCode) { c.K += n })
			if code.Kind != api.SLocal && code.Kind != api.SPyramid {
				with("a third number", func(c *api.CoreCode) { c.C = n })
			}
			if code.Kind == api.SMatrix {
				with("a first number", func(c *api.CoreCode) { c.A = n })
				with("a second number", func(c *api.CoreCode) { c.B = n })
			} else {
				with("rows of no matrix", func(c *api.CoreCode) { c.G.Rows = n })
				with("columns of no matrix", func(c *api.CoreCode) { c.G.Cols = n })
			}
		}
		if code.Kind != api.SMatrix {
			with("a matrix", func(c *api.CoreCode) { c.G = rows([]byte{1}).G })
			with("elements of no matrix", func(c *api.CoreCode) { c.G.Data = []byte{0} })
			mayBe(t, "a list that is empty", true, turned(func(c *api.Core) { c.Codes[i].G.Data = []byte{} }))
		}
		with("no N", func(c *api.CoreCode) { c.N = 0 })
		with("no K", func(c *api.CoreCode) { c.K = 0 })
		for kind := range 256 {
			c := turned(func(c *api.Core) { c.Codes[i].Kind = api.ShapeKind(kind) })
			alike := slices.ContainsFunc([][]api.ShapeKind{{api.SReed, api.SCross}, {api.SLocal, api.SPyramid}}, func(l []api.ShapeKind) bool {
				return slices.Contains(l, code.Kind) && slices.Contains(l, api.ShapeKind(kind))
			})
			mayBe(t, fmt.Sprint("the kind ", kind, " of the code ", i), alike || kind == int(code.Kind), c)
		}
	}
}

// A code that is not used must be right, too, wherever it stands.
func TestMayOfWhatIsNotUsed(t *testing.T) {
	for place := range 8 {
		c := full()
		c.Use = 2 // by no place that is moved
		c.Codes = slices.Insert(c.Codes[:5], min(place, 5), reed(1, 0))
		if place <= 2 {
			c.Use = 3
		}
		mayBe(t, "one more code", true, c)
		c.Codes[min(place, 5)].N = 2
		mayBe(t, "one more code that is wrong", false, c)
		c.Codes[min(place, 5)] = api.CoreCode{}
		mayBe(t, "one more code of no kind", false, c)
		c.Codes[min(place, 5)] = api.CoreCode{Kind: api.SName, N: 1, K: 1}
		mayBe(t, "one more name", false, c)
	}
}

func TestMayOfHowManyCodes(t *testing.T) {
	codes := slices.Repeat([]api.CoreCode{reed(1, 1)}, api.MaxNodes+1)
	core := api.Core{Domains: 2, Place: api.PRow, Use: 5}
	for count, want := range map[int]bool{6: true, api.MaxNodes - 1: true, api.MaxNodes: true, api.MaxNodes + 1: false} {
		core.Codes = codes[:count]
		mayBe(t, fmt.Sprint(count, " codes"), want, core)
	}
	core.Codes, core.Use = codes[:api.MaxNodes], api.MaxNodes-1
	mayBe(t, "the last code of all", true, core)
	codes[api.MaxNodes-1].K = 2
	mayBe(t, "the last code of all, being wrong", false, core)
}

func TestMayOfSteps(t *testing.T) {
	for _, step := range []int{1, 2, 64, 65, api.MaxNumber} {
		mayBe(t, "a spiral", true, placed(api.PSpiral, step))
		mayBe(t, "a spiral with a list", false, placed(api.PSpiral, step, 0))
		mayBe(t, "a spiral with a whole list", false, placed(api.PSpiral, step, make([]int, 13)...))
		mayBe(t, "a row with a step", false, placed(api.PRow, step))
		mayBe(t, "a spread with a step", false, placed(api.PSpread, step))
		mayBe(t, "a list with a step", false, placed(api.PList, step, make([]int, 13)...))
	}
	for _, step := range []int{0, -1, api.MaxNumber + 1, math.MaxInt, math.MinInt} {
		mayBe(t, "a spiral", false, placed(api.PSpiral, step))
	}
	for kind := range 256 {
		place := api.PlaceKind(kind)
		mayBe(t, fmt.Sprint("a place of the kind ", kind), place == api.PRow || place == api.PSpread, placed(place, 0))
	}
}

func TestMayOfLists(t *testing.T) {
	for count := range 70 {
		mayBe(t, fmt.Sprint("a list of ", count), count == 13, placed(api.PList, 0, make([]int, count)...))
		mayBe(t, "a row with a list", count == 0, placed(api.PRow, 0, make([]int, count)...))
		mayBe(t, "a spread with a list", count == 0, placed(api.PSpread, 0, make([]int, count)...))
	}
	for place := range 13 {
		for n, want := range map[int]bool{0: true, 6: true, 7: false, 64: false, -1: false, math.MaxInt: false, math.MinInt: false} {
			l := []int{0, 1, 2, 3, 4, 5, 6, 6, 5, 4, 3, 2, 1}
			l[place] = n
			mayBe(t, fmt.Sprint(n, " in a list"), want, placed(api.PList, 0, l...))
		}
	}
	for use, code := range full().Codes {
		c := placed(api.PList, 0, make([]int, code.N)...)
		c.Use = use
		mayBe(t, "a list for each code", true, c)
		c.List = append(c.List, 0)
		mayBe(t, "a list for each code, and one more", false, c)
	}
}

// As many sets as MaxPatterns, and more.
func TestMayOfTolerances(t *testing.T) {
	for n := 1; n <= api.MaxSide; n++ {
		for tolerate := -1; tolerate <= n+1; tolerate++ {
			c := used(reed(n, 0))
			c.Tolerate = tolerate
			mayBe(t, fmt.Sprint(tolerate, " of ", n), tolerate >= 0 && tolerate <= n && sets(n, tolerate) <= api.MaxPatterns, c)
		}
	}
	if sets(14, 14) != api.MaxPatterns || sets(15, 7) != api.MaxPatterns {
		t.Errorf("%d and %d sets", sets(14, 14), sets(15, 7))
	}
}

// textOf is a description that says what a core says, each code by a name of
// its own; false, if no text could.
func textOf(c api.Core) (string, bool) {
	var text strings.Builder
	beyond := false
	number := func(n int) string {
		beyond = beyond || n > api.MaxNumber || n < -api.MaxNumber
		if n < 0 {
			return fmt.Sprint("- ", -n)
		}
		return fmt.Sprint(n)
	}
	numbers := func(l ...int) string {
		var all []string
		for _, n := range l {
			all = append(all, number(n))
		}
		return strings.Join(all, ", ")
	}
	part := func(n int) string {
		beyond = beyond || n < 0
		return fmt.Sprint("x", n)
	}
	for i, code := range c.Codes {
		fmt.Fprintf(&text, "code x%d = ", i)
		switch code.Kind {
		case api.SReed, api.SCross:
			text.WriteString(word(code.Kind) + "(" + numbers(code.A, code.B) + ")")
		case api.SLocal, api.SPyramid:
			text.WriteString(word(code.Kind) + "(" + numbers(code.A, code.B, code.C) + ")")
		case api.SProduct, api.SJoin:
			text.WriteString(word(code.Kind) + "(" + part(code.A) + ", " + part(code.B) + ")")
		case api.SMatrix:
			var lines []string
			for i := 0; i < len(code.G.Data); i += max(1, code.G.Cols) {
				row := code.G.Data[i:min(len(code.G.Data), i+max(1, code.G.Cols))]
				lines = append(lines, strings.ReplaceAll(strings.Trim(fmt.Sprint(row), "[]"), " ", ", "))
			}
			text.WriteString("matrix [" + strings.Join(lines, "; ") + "]")
		}
		text.WriteString(";\n")
	}
	text.WriteString("use " + part(c.Use) + "; domains " + number(c.Domains) + "; tolerate " + number(c.Tolerate) + ";")
	switch c.Place {
	case api.PRow, api.PSpread:
		text.WriteString("place " + []string{"row", "spread"}[c.Place-api.PRow] + ";")
	case api.PSpiral:
		text.WriteString("place spiral " + number(c.Step) + ";")
	case api.PList:
		text.WriteString("place list [" + numbers(c.List...) + "];")
	}
	return text.String(), !beyond
}

// slowMay writes a description for a core, and asks whether it says that core.
func slowMay(c api.Core) bool {
	text, ok := textOf(c)
	if !ok {
		return false
	}
	l, f := parse.Program(text)
	if f != (api.Fault{}) {
		return false
	}
	said, f := typing.Check(l...)
	return f == (api.Fault{}) && shown(said) == shown(c)
}

// numbersOf are all numbers of a core, to be changed.
func numbersOf(c *api.Core) []*int {
	made := []*int{&c.Use, &c.Domains, &c.Step, &c.Tolerate}
	for i := range c.Codes {
		code := &c.Codes[i]
		made = append(made, &code.A, &code.B, &code.C, &code.N, &code.K, &code.G.Rows, &code.G.Cols)
	}
	for i := range c.List {
		made = append(made, &c.List[i])
	}
	return made
}

// changed is a core with something else in it.
func (s *source) changed(c api.Core) api.Core {
	c.Codes, c.List = slices.Clone(c.Codes), slices.Clone(c.List)
	switch kind := s.below(10); {
	case kind < 6:
		n := one(s, numbersOf(&c))
		*n = one(s, []int{*n + 1, *n - 1, 0, 1, 2, 64, 65, -1, math.MaxInt, math.MinInt, s.below(20), *one(s, numbersOf(&c))})
	case kind < 7:
		one(s, pointers(c.Codes)).Kind = api.ShapeKind(s.below(10))
	case kind < 8:
		c.Place = api.PlaceKind(s.below(6))
	case kind < 9:
		one(s, pointers(c.Codes)).G.Data = make([]byte, s.below(5))
	default:
		c.List = make([]int, s.below(7))
	}
	return c
}

func pointers[T any](l []T) []*T {
	var made []*T
	for i := range l {
		made = append(made, &l[i])
	}
	return made
}

func TestMayOfAnyCores(t *testing.T) {
	met := map[bool]int{}
	for seed := range 1500 {
		_, c := written(seed)
		if len(c.Codes) > api.MaxItems-4 {
			continue
		}
		s := seeded(seed + 2000000)
		mayBe(t, "a core of a text", true, c)
		for range 20 {
			one := s.changed(c)
			want := slowMay(one)
			mayBe(t, fmt.Sprint("a changed core of seed ", seed), want, one)
			met[want]++
		}
	}
	if met[true] < 1000 || met[false] < 1000 {
		t.Errorf("%d of the cores may be, %d may not", met[true], met[false])
	}
}
