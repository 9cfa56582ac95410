package names

import (
	"iter"

	"recoup/api"
)

// use is a name where an item uses it, and the kind that it asks for.
type use struct {
	name      string
	asks      api.SymbolKind
	line, col int
}

func (u use) fault(e api.Errno) api.Fault {
	return api.Fault{Code: e, Line: u.line, Col: u.col}
}

// usesOf are the names of an item that may be, in the order of its text.
func usesOf(t api.Item) iter.Seq[use] {
	return func(yield func(use) bool) {
		if t.Kind == api.IUse {
			yield(use{t.Name, api.KCode, t.Line, t.Col})
			return
		}
		// Each kind has one of these at most; the others are zero, without a
		// name in them.
		_ = inExpr(t.Value, yield) && inShape(t.Shape, yield) && inExprs(t.List, yield)
	}
}

// inExpr tells the names in x, and answers whether more are asked for.
func inExpr(x api.Expr, yield func(use) bool) bool {
	if x.Kind == api.EName {
		return yield(use{x.Name, api.KConst, x.Line, x.Col})
	}
	return inExprs(x.L, yield)
}

func inExprs(l []api.Expr, yield func(use) bool) bool {
	for _, x := range l {
		if !inExpr(x, yield) {
			return false
		}
	}
	return true
}

// inShape does so of the names in s.
func inShape(s api.Shape, yield func(use) bool) bool {
	if s.Kind == api.SName {
		return yield(use{s.Name, api.KCode, s.Line, s.Col})
	}
	for _, part := range s.Parts {
		if !inShape(part, yield) {
			return false
		}
	}
	for _, row := range s.Rows {
		if !inExprs(row, yield) {
			return false
		}
	}
	return inExprs(s.Args, yield)
}
