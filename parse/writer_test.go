package parse_test

import (
	"strings"

	"recoup/api"
)

// writer writes trees and notes where each part comes to stand. What it puts
// between tokens, and whether it writes brackets that need not be, hangs on a
// source; without one it is as little as can be.
type writer struct {
	text      strings.Builder
	from      *source
	line, col int  // how many of them are ended
	last      byte // what was written last
}

// The places of the grammar where an expression may stand, by what may stand
// there without brackets: all; what is no sum; what is neither a sum nor a
// term.
const (
	inSum = iota
	inTerm
	inFactor
)

// put is where a token comes to stand.
func (w *writer) put(token string) (line, col int) {
	w.write(w.gap(token))
	line, col = w.line+1, w.col+1
	w.write(token)
	return line, col
}

func (w *writer) write(text string) {
	w.text.WriteString(text)
	for i := range len(text) {
		w.last = text[i]
		w.col++
		if w.last == '\n' {
			w.line, w.col = w.line+1, 0
		}
	}
}

// gap is what stands ahead of a token: something, if it would else be one with
// the token ahead of it.
func (w *writer) gap(token string) string {
	gap := ""
	if w.from != nil {
		gap = one(w.from, []string{"", "", "", " ", " ", "\n", "\t", "  \n ", "# a ;\n", " #\n\n\t", "#use(\n #x\n"})
	}
	if gap == "" && isInName(w.last) && isInName(token[0]) {
		return " "
	}
	return gap
}

func isInName(b byte) bool {
	return 'a' <= b && b <= 'z' || '0' <= b && b <= '9'
}

// expr writes one, and is it with its places.
func (w *writer) expr(x api.Expr, where int) api.Expr {
	if needsBrackets(x.Kind, where) || w.from != nil && w.from.below(6) == 0 {
		w.put("(")
		x = w.expr(x, inSum)
		w.put(")")
		return x
	}
	switch x.Kind {
	case api.ENumber:
		x.Line, x.Col = w.put(decimal(x.N))
	case api.EName:
		x.Line, x.Col = w.put(x.Name)
	case api.ENegate:
		x.Line, x.Col = w.put("-")
		x.L = []api.Expr{w.expr(x.L[0], inFactor)}
	default:
		left, right := inSum, inTerm
		if bindsTight(x.Kind) {
			left, right = inTerm, inFactor
		}
		a := w.expr(x.L[0], left)
		x.Line, x.Col = w.put(signOf(x.Kind))
		x.L = []api.Expr{a, w.expr(x.L[1], right)}
	}
	return x
}

func needsBrackets(kind api.ExprKind, where int) bool {
	switch kind {
	case api.EAdd, api.ESub:
		return where != inSum
	case api.EMul, api.EDiv, api.ERest:
		return where == inFactor
	}
	return false
}

func decimal(n int) string {
	if n < 10 {
		return string(rune('0' + n))
	}
	return decimal(n/10) + decimal(n%10)
}

// all writes parts with a sign between each two.
func all[T any](w *writer, sign string, l []T, write func(T) T) []T {
	var made []T
	for i, part := range l {
		if i > 0 {
			w.put(sign)
		}
		made = append(made, write(part))
	}
	return made
}

func (w *writer) sum(x api.Expr) api.Expr {
	return w.expr(x, inSum)
}

func (w *writer) row(l []api.Expr) []api.Expr {
	return all(w, ",", l, w.sum)
}

func (w *writer) shape(s api.Shape) api.Shape {
	switch s.Kind {
	case api.SName:
		s.Line, s.Col = w.put(s.Name)
	case api.SMatrix:
		s.Line, s.Col = w.put(shapeWords[s.Kind])
		w.put("[")
		s.Rows = all(w, ";", s.Rows, w.row)
		w.put("]")
	default:
		s.Line, s.Col = w.put(shapeWords[s.Kind])
		w.put("(")
		s.Args = w.row(s.Args)
		s.Parts = all(w, ",", s.Parts, w.shape)
		w.put(")")
	}
	return s
}

func (w *writer) item(t api.Item) api.Item {
	switch t.Kind {
	case api.IConst:
		t.Line, t.Col = w.put("const")
		w.put(t.Name)
		w.put("=")
		t.Value = w.sum(t.Value)
	case api.ICode:
		t.Line, t.Col = w.put("code")
		w.put(t.Name)
		w.put("=")
		t.Shape = w.shape(t.Shape)
	case api.IUse:
		t.Line, t.Col = w.put("use")
		w.put(t.Name)
	case api.IDomains:
		t.Line, t.Col = w.put("domains")
		t.Value = w.sum(t.Value)
	case api.ITolerate:
		t.Line, t.Col = w.put("tolerate")
		t.Value = w.sum(t.Value)
	case api.IPlace:
		t.Line, t.Col = w.put("place")
		t = w.place(t)
	}
	w.put(";")
	return t
}

func (w *writer) place(t api.Item) api.Item {
	switch t.Place {
	case api.PRow:
		w.put("row")
	case api.PSpread:
		w.put("spread")
	case api.PSpiral:
		w.put("spiral")
		t.Value = w.sum(t.Value)
	case api.PList:
		w.put("list")
		w.put("[")
		t.List = w.row(t.List)
		w.put("]")
	}
	return t
}

// writtenExpr, writtenShape and written are texts, and the trees with their
// places in them.

func writtenExpr(from *source, x api.Expr) (string, api.Expr) {
	w := &writer{from: from}
	x = w.sum(x)
	return w.text.String() + w.gap("("), x
}

func writtenShape(from *source, s api.Shape) (string, api.Shape) {
	w := &writer{from: from}
	s = w.shape(s)
	return w.text.String() + w.gap("("), s
}

func written(from *source, l ...api.Item) (string, []api.Item) {
	w := &writer{from: from}
	var made []api.Item
	for _, t := range l {
		made = append(made, w.item(t))
	}
	return w.text.String() + w.gap("("), made
}

// tight is a text with no more in it than must be.
func tight(l ...api.Item) string {
	text, _ := written(nil, l...)
	return text
}
