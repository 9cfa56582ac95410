package elab_test

import (
	"fmt"
	"slices"
	"strings"

	"recoup/api"
)

// Descriptions are written here for cores that are known, so that what must
// come out of either is known ahead of asking the package.

// source tells numbers by a simple rule that differs from seed to seed.
type source struct {
	state uint64
}

func seeded(seed int) *source {
	return &source{uint64(seed)*0x9e3779b97f4a7c15 + 12345}
}

// below is a number from 0 to ahead of n.
func (s *source) below(n int) int {
	s.state = s.state*6364136223846793005 + 1442695040888963407
	return int((s.state ^ s.state>>32) >> 1 % uint64(n))
}

func one[T any](s *source, list []T) T {
	return list[s.below(len(list))]
}

// writer writes a description, and keeps its core.
type writer struct {
	*source
	text  strings.Builder
	names []madeCode
	core  api.Core
}

// madeCode is a name, and the place of the code for which it stands.
type madeCode struct {
	name  string
	place int
}

// number is an expression that comes to n.
func (w *writer) number(n int) string {
	switch w.below(8) {
	case 0:
		return fmt.Sprint("(", n, ")")
	case 1:
		return fmt.Sprint("c + ", n, " - c")
	case 2:
		return fmt.Sprint(2*n, " / 2")
	case 3:
		return fmt.Sprintf("-(-%d)", n)
	}
	return fmt.Sprint(n)
}

func (w *writer) numbers(l ...int) string {
	made := make([]string, len(l))
	for i, n := range l {
		made[i] = w.number(n)
	}
	return strings.Join(made, ", ")
}

// add puts a code behind the others.
func (w *writer) add(c api.CoreCode) int {
	w.core.Codes = append(w.core.Codes, c)
	return len(w.core.Codes) - 1
}

// shape is one of at most so many blocks, and the place of its code.
func (w *writer) shape(most, deep int) (string, int) {
	kind := w.below(10)
	switch {
	case kind < 4 && deep > 1 && most > 1:
		return w.pair(most, deep)
	case kind < 6 && len(w.names) > 0:
		if c := one(w.source, w.names); w.core.Codes[c.place].N <= most {
			return c.name, c.place
		}
	case kind < 8 && most > 1:
		l := 1 + w.below(min(4, most/2))
		k := l * (1 + w.below(most/l-1))
		c := three(one(w.source, []api.ShapeKind{api.SLocal, api.SPyramid}), k, l, w.below(most-k-l+1))
		return word(c.Kind) + "(" + w.numbers(c.A, c.B, c.C) + ")", w.add(c)
	case kind == 8:
		c := explicit(w.matrix(min(most, 1+w.below(7))))
		return w.matrixText(c.G), w.add(c)
	}
	k := 1 + w.below(most)
	c := two(one(w.source, []api.ShapeKind{api.SReed, api.SCross}), k, w.below(most-k+1))
	return word(c.Kind) + "(" + w.numbers(c.A, c.B) + ")", w.add(c)
}

func (w *writer) pair(most, deep int) (string, int) {
	kind := one(w.source, []api.ShapeKind{api.SProduct, api.SJoin})
	first, a := w.shape(1+w.below(most-1), deep-1)
	left := most - w.core.Codes[a].N
	if kind == api.SProduct {
		left = most / w.core.Codes[a].N
	}
	second, b := w.shape(left, deep-1)
	return word(kind) + "(" + first + ", " + second + ")", w.add(pair(w.core.Codes, kind, a, b))
}

// matrix is one of that height, with a column now and then that is a multiple
// of another one, or all 0.
func (w *writer) matrix(height int) api.Matrix {
	cols := 1 + w.below(height)
	g := slow(height, cols, func(_, _ int) byte { return one(w.source, []byte{0, 1, 2, byte(w.below(256)), 255}) })
	if w.below(4) > 0 {
		return g
	}
	from, to, by := w.below(cols), w.below(cols), byte(w.below(256))
	if from == to {
		by = 0
	}
	for i := range height {
		g.Data[i*cols+to] = products[by][entry(g, i, from)]
	}
	return g
}

func (w *writer) matrixText(g api.Matrix) string {
	var rows []string
	for i := range g.Rows {
		var row []int
		for j := range g.Cols {
			row = append(row, int(entry(g, i, j)))
		}
		rows = append(rows, w.numbers(row...))
	}
	return "matrix [" + strings.Join(rows, "; ") + "]"
}

func word(kind api.ShapeKind) string {
	return []string{"", "", "reed", "cross", "local", "pyramid", "product", "join", "matrix"}[kind]
}

// item writes an item, with something behind it.
func (w *writer) item(text string) {
	w.text.WriteString(text + ";" + one(w.source, []string{"", " ", "\n", " # one;\n\t"}))
}

func (w *writer) codes(count int) {
	for i := range count {
		text, place := w.shape(one(w.source, []int{1, 4, 12, 30, api.MaxSide}), 4)
		name := fmt.Sprint("x", i)
		w.names = append(w.names, madeCode{name, place})
		w.item("code " + name + " = " + text)
	}
}

// rest writes the items that make nothing, each of which is left out now and
// then but for the use.
func (w *writer) rest() {
	used := one(w.source, w.names)
	blocks := w.core.Codes[used.place].N
	w.core.Use, w.core.Domains, w.core.Place = used.place, blocks, api.PRow
	items := []string{"use " + used.name}
	if w.below(2) == 0 {
		w.core.Domains = 1 + w.below(api.MaxSide)
		items = append(items, "domains "+w.number(w.core.Domains))
	}
	if w.below(5) > 0 {
		w.core.Place = api.PRow + api.PlaceKind(w.below(4))
		items = append(items, "place "+w.place(blocks))
	}
	if w.below(3) > 0 {
		w.core.Tolerate = w.below(blocks + 1)
		for sets(blocks, w.core.Tolerate) > api.MaxPatterns {
			w.core.Tolerate--
		}
		items = append(items, "tolerate "+w.number(w.core.Tolerate))
	}
	for len(items) > 0 {
		at := w.below(len(items))
		w.item(items[at])
		items = slices.Delete(items, at, at+1)
	}
}

func (w *writer) place(blocks int) string {
	switch w.core.Place {
	case api.PRow:
		return "row"
	case api.PSpread:
		return "spread"
	case api.PSpiral:
		w.core.Step = one(w.source, []int{1, 2, 1 + w.below(64), 1000003, 1 << 29})
		return "spiral " + w.number(w.core.Step)
	}
	for range blocks {
		w.core.List = append(w.core.List, w.below(w.core.Domains))
	}
	return "list [" + w.numbers(w.core.List...) + "]"
}

// written is a description's text, and its core.
func written(seed int) (string, api.Core) {
	w := &writer{source: seeded(seed)}
	w.item(fmt.Sprint("const c = ", w.below(1000)))
	w.codes(1 + w.below(6))
	w.rest()
	return w.text.String(), w.core
}

// Parts of cores made by hand.

func two(kind api.ShapeKind, k, m int) api.CoreCode {
	return api.CoreCode{Kind: kind, A: k, B: m, N: k + m, K: k}
}

func reed(k, m int) api.CoreCode { return two(api.SReed, k, m) }

func three(kind api.ShapeKind, k, l, m int) api.CoreCode {
	return api.CoreCode{Kind: kind, A: k, B: l, C: m, N: k + l + m, K: k}
}

func explicit(g api.Matrix) api.CoreCode {
	return api.CoreCode{Kind: api.SMatrix, G: g, N: g.Rows, K: g.Cols}
}

// pair is a code of two that stand in a list already.
func pair(ahead []api.CoreCode, kind api.ShapeKind, a, b int) api.CoreCode {
	of, and := ahead[a], ahead[b]
	made := api.CoreCode{Kind: kind, A: a, B: b, N: of.N + and.N, K: of.K + and.K}
	if kind == api.SProduct {
		made.N, made.K = of.N*and.N, of.K*and.K
	}
	return made
}

// used is the core of codes of which the last one is used, without anything
// else.
func used(l ...api.CoreCode) api.Core {
	return api.Core{Codes: l, Use: len(l) - 1, Domains: l[len(l)-1].N, Place: api.PRow}
}

// paired is the core of some codes and one of two of them, which is used.
func paired(kind api.ShapeKind, a, b int, l ...api.CoreCode) api.Core {
	return used(append(l, pair(l, kind, a, b))...)
}
