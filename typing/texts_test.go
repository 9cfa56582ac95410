package typing_test

import (
	"fmt"
	"slices"
	"strings"
	"testing"

	"recoup/api"
	"recoup/parse"
	"recoup/typing"
)

// What the package must tell is known here ahead of asking it: texts are
// written for a core that is there already, each number of it as an expression
// that is made to come to it; and of texts that are wrong a mark in them shows
// where the fault stands. Cores are compared by what is shown of them.

// source tells numbers by a simple rule that differs from seed to seed.
type source struct {
	state uint64
}

func seeded(seed int) *source {
	return &source{uint64(seed)*0x9e3779b97f4a7c15 + 12345}
}

func (s *source) word() uint64 {
	s.state = s.state*6364136223846793005 + 1442695040888963407
	return s.state ^ s.state>>32
}

// below is a number from 0 to ahead of n.
func (s *source) below(n int) int {
	return int(s.word() >> 1 % uint64(n))
}

func one[T any](s *source, list []T) T {
	return list[s.below(len(list))]
}

// writer writes a description, and keeps what it says.
type writer struct {
	*source
	items  []string
	consts []madeConst
	codes  []madeCode
	core   api.Core
}

// madeConst, madeCode: a name, the place of the item that makes it, and what
// it stands for.
type madeConst struct {
	name    string
	item, n int
}

type madeCode struct {
	name        string
	item, place int
}

// number is an expression that comes to n, by constants of the items ahead of
// a place.
func (w *writer) number(n, ahead, deep int) string {
	var known []madeConst
	for _, c := range w.consts {
		if c.item < ahead {
			known = append(known, c)
		}
	}
	for _, c := range known {
		if c.n == n && w.below(2) == 0 {
			return c.name
		}
	}
	other := func(n int) string { return w.number(n, ahead, deep-1) }
	kind := w.below(12)
	switch {
	case n < 0 && (deep < 2 || kind < 4):
		return "- " + other(-n)
	case deep < 2 || kind < 5:
		return fmt.Sprint(n)
	case kind < 9 && len(known) > 0:
		c := one(w.source, known)
		return one(w.source, []string{
			"( " + c.name + " + " + other(n-c.n) + " )",
			"( " + other(n+c.n) + " - " + c.name + " )",
			"( " + c.name + " - " + other(c.n-n) + " )",
		})
	case kind == 9:
		return "( " + other(n*3) + " / 3 )"
	case kind == 10 && n >= 0:
		return "( " + other(n+2*(n+1)) + " % " + other(n+1) + " )"
	}
	return "( 1 * " + other(n) + " )"
}

func (w *writer) numbers(l []int, ahead int) string {
	made := make([]string, len(l))
	for i, n := range l {
		made[i] = w.number(n, ahead, 1+w.below(3))
	}
	return strings.Join(made, " , ")
}

// code puts a code behind the others.
func (w *writer) code(c api.CoreCode) int {
	w.core.Codes = append(w.core.Codes, c)
	return len(w.core.Codes) - 1
}

// shape is one of at most so many blocks, and the place of its code.
func (w *writer) shape(most, deep int) (string, int) {
	kind := w.below(10)
	switch {
	case kind < 4 && deep > 1 && most > 1:
		return w.pair(most, deep)
	case kind < 6 && len(w.codes) > 0:
		if c := one(w.source, w.codes); w.core.Codes[c.place].N <= most {
			return c.name, c.place
		}
	case kind < 8 && most > 1:
		l := 1 + w.below(min(4, most/2))
		k := l * (1 + w.below(most/l-1))
		m := w.below(most - k - l + 1)
		c := api.CoreCode{Kind: one(w.source, []api.ShapeKind{api.SLocal, api.SPyramid}), A: k, B: l, C: m, N: k + l + m, K: k}
		return word(c.Kind) + " ( " + w.numbers([]int{k, l, m}, len(w.items)) + " )", w.code(c)
	case kind == 8:
		return w.matrix(min(most, 1+w.below(7)))
	}
	k := 1 + w.below(most)
	m := w.below(most - k + 1)
	c := api.CoreCode{Kind: one(w.source, []api.ShapeKind{api.SReed, api.SCross}), A: k, B: m, N: k + m, K: k}
	return word(c.Kind) + " ( " + w.numbers([]int{k, m}, len(w.items)) + " )", w.code(c)
}

func (w *writer) pair(most, deep int) (string, int) {
	c := api.CoreCode{Kind: one(w.source, []api.ShapeKind{api.SProduct, api.SJoin})}
	first, a := w.shape(1+w.below(most-1), deep-1)
	left := most - w.core.Codes[a].N
	if c.Kind == api.SProduct {
		left = most / w.core.Codes[a].N
	}
	second, b := w.shape(left, deep-1)
	of, and := w.core.Codes[a], w.core.Codes[b]
	c.A, c.B, c.N, c.K = a, b, of.N+and.N, of.K+and.K
	if c.Kind == api.SProduct {
		c.N, c.K = of.N*and.N, of.K*and.K
	}
	return word(c.Kind) + " ( " + first + " , " + second + " )", w.code(c)
}

func (w *writer) matrix(height int) (string, int) {
	g := api.Matrix{Rows: height, Cols: 1 + w.below(height)}
	var rows []string
	for range g.Rows {
		row := make([]int, g.Cols)
		for i := range row {
			row[i] = one(w.source, []int{0, 1, 2, w.below(256), 255})
			g.Data = append(g.Data, byte(row[i]))
		}
		rows = append(rows, w.numbers(row, len(w.items)))
	}
	return "matrix [ " + strings.Join(rows, " ; ") + " ]", w.code(api.CoreCode{Kind: api.SMatrix, G: g, N: g.Rows, K: g.Cols})
}

func word(kind api.ShapeKind) string {
	return []string{"", "", "reed", "cross", "local", "pyramid", "product", "join", "matrix"}[kind]
}

// makers writes items that make names, a code among them.
func (w *writer) makers(count int) {
	for i := range count {
		name := fmt.Sprintf("n%d", i)
		last := i == count-1 && len(w.codes) == 0
		if !last && w.below(2) == 0 {
			n := one(w.source, []int{0, 1, 2, 3, 5, 64, 255, -1, -7, w.below(1000000)})
			w.items = append(w.items, "const "+name+" = "+w.number(n, i, 3)+" ;")
			w.consts = append(w.consts, madeConst{name, i, n})
			continue
		}
		text, place := w.shape(one(w.source, []int{1, 4, 12, 30, api.MaxSide}), 4)
		w.items = append(w.items, "code "+name+" = "+text+" ;")
		w.codes = append(w.codes, madeCode{name, i, place})
	}
}

// others writes the items that make nothing, each of which is left out now and
// then but for the use; each stands ahead of the item at a place that is told.
func (w *writer) others() map[int][]string {
	made := map[int][]string{}
	put := func(from int, write func(ahead int) string) {
		ahead := from + w.below(len(w.items)+1-from)
		made[ahead] = append(made[ahead], write(ahead))
	}
	used := one(w.source, w.codes)
	blocks := w.core.Codes[used.place].N
	w.core.Use, w.core.Domains, w.core.Place = used.place, blocks, api.PRow
	put(used.item+1, func(int) string { return "use " + used.name + " ;" })
	if w.below(2) == 0 {
		w.core.Domains = 1 + w.below(api.MaxSide)
		put(0, func(ahead int) string { return "domains " + w.number(w.core.Domains, ahead, 3) + " ;" })
	}
	if w.below(5) > 0 {
		w.core.Place = api.PRow + api.PlaceKind(w.below(4))
		put(0, func(ahead int) string { return "place " + w.place(blocks, ahead) + " ;" })
	}
	if w.below(3) > 0 {
		w.core.Tolerate = w.below(blocks + 1)
		for sets(blocks, w.core.Tolerate) > api.MaxPatterns {
			w.core.Tolerate--
		}
		put(0, func(ahead int) string { return "tolerate " + w.number(w.core.Tolerate, ahead, 3) + " ;" })
	}
	return made
}

func (w *writer) place(blocks, ahead int) string {
	switch w.core.Place {
	case api.PRow:
		return "row"
	case api.PSpread:
		return "spread"
	case api.PSpiral:
		w.core.Step = one(w.source, []int{1, 2, 1 + w.below(64), 1000000})
		return "spiral " + w.number(w.core.Step, ahead, 3)
	}
	for range blocks {
		w.core.List = append(w.core.List, w.below(w.core.Domains))
	}
	return "list [ " + w.numbers(w.core.List, ahead) + " ]"
}

// sets are how many sets of n have at most t numbers, by Pascal's triangle; of
// those beyond a million some million.
func sets(n, t int) int {
	row := []int{1}
	for range n {
		next := []int{1}
		for i := range row[1:] {
			next = append(next, min(1000000, row[i]+row[i+1]))
		}
		row = append(next, 1)
	}
	sum := 0
	for _, of := range row[:min(t, n)+1] {
		sum += of
	}
	return sum
}

// written is a description's text, and its core.
func written(seed int) (string, api.Core) {
	w := &writer{source: seeded(seed)}
	w.makers(2 + w.below(9))
	others := w.others()
	var all []string
	for i := range len(w.items) + 1 {
		all = append(all, others[i]...)
		if i < len(w.items) {
			all = append(all, w.items[i])
		}
	}
	var text strings.Builder
	for _, part := range strings.SplitAfter(strings.Join(all, " "), " ") {
		text.WriteString(part + one(w.source, []string{"", "", "", "\n", " ", " # a ;\n"}))
	}
	return text.String(), w.core
}

// read is a description by its text, its parts with their places.
func read(t *testing.T, text string) []api.Item {
	t.Helper()
	l, f := parse.Program(text)
	if f != (api.Fault{}) {
		t.Fatalf("Program(%s): %v", short(text), f)
	}
	return l
}

// marked is a text without the mark in it, and the line and the column where
// the mark stands.
func marked(t *testing.T, text string) (string, int, int) {
	t.Helper()
	ahead, behind, found := strings.Cut(text, "@")
	if !found || strings.Contains(behind, "@") {
		t.Fatalf("not one mark in %s", text)
	}
	return ahead + behind, strings.Count(ahead, "\n") + 1, len(ahead) - strings.LastIndex(ahead, "\n")
}

// shown is all that a core says.
func shown(c api.Core) string { return fmt.Sprintf("%+v", c) }

// short keeps what a test tells readable.
func short(text string) string {
	if len(text) > 500 {
		return text[:500] + " .."
	}
	return text
}

func fault(e api.Errno, line, col int) api.Fault {
	return api.Fault{Code: e, Line: line, Col: col}
}

func coreOf(t *testing.T, text string) api.Core {
	t.Helper()
	made, f := typing.Check(read(t, text)...)
	if f != (api.Fault{}) {
		t.Fatalf("Check(%s): %v", short(text), f)
	}
	return made
}

func coreIs(t *testing.T, text string, want api.Core) {
	t.Helper()
	if got, f := typing.Check(read(t, text)...); shown(got) != shown(want) || f != (api.Fault{}) {
		t.Errorf("Check(%s) = %s, %v; want %s", short(text), short(shown(got)), f, short(shown(want)))
	}
}

// checkFails: what is told of the items is a text of the test's own, for they
// may have no end.
func checkFails(t *testing.T, what string, want api.Fault, l ...api.Item) {
	t.Helper()
	if got, f := typing.Check(l...); shown(got) != shown(api.Core{}) || f != want {
		t.Errorf("Check(%s) = %s, %v; want %v", short(what), short(shown(got)), f, want)
	}
}

// textFails: the fault stands where the mark does.
func textFails(t *testing.T, text string, e api.Errno) {
	t.Helper()
	text, line, col := marked(t, text)
	checkFails(t, text, fault(e, line, col), read(t, text)...)
}

// Codes made by hand.

func two(kind api.ShapeKind, k, m int) api.CoreCode {
	return api.CoreCode{Kind: kind, A: k, B: m, N: k + m, K: k}
}

func reed(k, m int) api.CoreCode { return two(api.SReed, k, m) }

func three(kind api.ShapeKind, k, l, m int) api.CoreCode {
	return api.CoreCode{Kind: kind, A: k, B: l, C: m, N: k + l + m, K: k}
}

func pair(kind api.ShapeKind, a, b, n, k int) api.CoreCode {
	return api.CoreCode{Kind: kind, A: a, B: b, N: n, K: k}
}

func rows(l ...[]byte) api.CoreCode {
	g := api.Matrix{Rows: len(l), Cols: len(l[0]), Data: slices.Concat(l...)}
	return api.CoreCode{Kind: api.SMatrix, G: g, N: g.Rows, K: g.Cols}
}

// used is the core of codes of which the last one is used, without anything
// else.
func used(l ...api.CoreCode) api.Core {
	return api.Core{Codes: l, Use: len(l) - 1, Domains: l[len(l)-1].N, Place: api.PRow}
}

func list(numbers ...int) []int { return numbers }
