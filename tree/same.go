package tree

import (
	"slices"

	"recoup/api"
)

// Same tells whether a and b are one description, wherever their parts stand.
func Same(a, b []api.Item) bool {
	return May(a...) && May(b...) && slices.EqualFunc(a, b, sameItem)
}

func sameItem(a, b api.Item) bool {
	return a.Kind == b.Kind && a.Name == b.Name && a.Place == b.Place &&
		sameExpr(a.Value, b.Value) && sameShape(a.Shape, b.Shape) && sameExprs(a.List, b.List)
}

func sameShape(a, b api.Shape) bool {
	return a.Kind == b.Kind && a.Name == b.Name && sameExprs(a.Args, b.Args) &&
		slices.EqualFunc(a.Parts, b.Parts, sameShape) && slices.EqualFunc(a.Rows, b.Rows, sameExprs)
}

func sameExprs(a, b []api.Expr) bool {
	return slices.EqualFunc(a, b, sameExpr)
}

func sameExpr(a, b api.Expr) bool {
	return a.Kind == b.Kind && a.N == b.N && a.Name == b.Name && sameExprs(a.L, b.L)
}

// Strip is the same description, no part of which stands anywhere.
func Strip(l ...api.Item) ([]api.Item, api.Errno) {
	if !May(l...) {
		return nil, api.ErrArg
	}
	return each(l, stripItem), api.OK
}

// each is a new list of what change makes of the parts of l.
func each[T any](l []T, change func(T) T) []T {
	if len(l) == 0 {
		return nil
	}
	made := make([]T, len(l))
	for i, part := range l {
		made[i] = change(part)
	}
	return made
}

func stripItem(t api.Item) api.Item {
	t.Value, t.Shape, t.List = stripExpr(t.Value), stripShape(t.Shape), stripExprs(t.List)
	t.Line, t.Col = 0, 0
	return t
}

func stripShape(s api.Shape) api.Shape {
	s.Args, s.Parts, s.Rows = stripExprs(s.Args), each(s.Parts, stripShape), each(s.Rows, stripExprs)
	s.Line, s.Col = 0, 0
	return s
}

func stripExprs(l []api.Expr) []api.Expr {
	return each(l, stripExpr)
}

func stripExpr(x api.Expr) api.Expr {
	x.L, x.Line, x.Col = stripExprs(x.L), 0, 0
	return x
}
