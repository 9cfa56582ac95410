package number

import (
	"maps"
	"slices"

	"recoup/api"
	"recoup/tree"
)

// Names are the names in x, each once, rising byte by byte.
func Names(x api.Expr) ([]string, api.Errno) {
	if !tree.MayExpr(x) {
		return nil, api.ErrArg
	}
	found := map[string]struct{}{}
	gather(found, x)
	return slices.Sorted(maps.Keys(found)), api.OK
}

func gather(found map[string]struct{}, x api.Expr) {
	if x.Kind == api.EName {
		found[x.Name] = struct{}{}
	}
	for _, part := range x.L {
		gather(found, part)
	}
}

// Put is x with y in the place of each name that is the given one.
func Put(x api.Expr, name string, y api.Expr) (api.Expr, api.Errno) {
	if !tree.MayExpr(x) || !tree.MayExpr(y) || !isName(name) {
		return api.Expr{}, api.ErrArg
	}
	// The lists of y stand in the draft wherever y does, and are copied only
	// when it may be: all copies of y could be far more than the limits say.
	draft := replaced(x, name, y)
	if !tree.MayExpr(draft) {
		return api.Expr{}, api.ErrLimit
	}
	return copied(draft), api.OK
}

func replaced(x api.Expr, name string, y api.Expr) api.Expr {
	if x.Kind == api.EName && x.Name == name {
		return y
	}
	return withParts(x, func(part api.Expr) api.Expr { return replaced(part, name, y) })
}

func copied(x api.Expr) api.Expr {
	return withParts(x, copied)
}

// withParts is x with a list of its own of what change makes of its parts.
func withParts(x api.Expr, change func(api.Expr) api.Expr) api.Expr {
	// A list without elements is let go, too: it may have room behind its end
	// that belongs to what was handed in.
	var parts []api.Expr
	for _, part := range x.L {
		parts = append(parts, change(part))
	}
	x.L = parts
	return x
}

// isName asks layer 10, for a name is an expression by itself.
func isName(text string) bool {
	return tree.MayExpr(api.Expr{Kind: api.EName, Name: text})
}
