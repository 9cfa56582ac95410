package parse

import "recoup/api"

func (r *reader) row() []api.Expr {
	l := []api.Expr{r.sum()}
	for r.more(",") {
		l = append(l, r.sum())
	}
	return l
}

func (r *reader) sum() api.Expr {
	x := r.term()
	for {
		kind := kindInSum(r.ahead)
		if kind == api.NoExpr {
			return x
		}
		sign := r.take()
		x = joined(kind, sign, x, r.term())
	}
}

func kindInSum(sign api.Token) api.ExprKind {
	switch sign.Text {
	case "+":
		return api.EAdd
	case "-":
		return api.ESub
	}
	return api.NoExpr
}

func (r *reader) term() api.Expr {
	x := r.factor()
	for {
		kind := kindInTerm(r.ahead)
		if kind == api.NoExpr {
			return x
		}
		sign := r.take()
		x = joined(kind, sign, x, r.factor())
	}
}

func kindInTerm(sign api.Token) api.ExprKind {
	switch sign.Text {
	case "*":
		return api.EMul
	case "/":
		return api.EDiv
	case "%":
		return api.ERest
	}
	return api.NoExpr
}

func (r *reader) factor() api.Expr {
	t := r.take()
	switch {
	case t.Text == "-":
		return joined(api.ENegate, t, r.factor())
	case t.Text == "(":
		x := r.sum()
		r.sign(")")
		return x
	case t.Kind == api.TNumber:
		return api.Expr{Kind: api.ENumber, N: t.N, Line: t.Line, Col: t.Col}
	case t.Kind == api.TName:
		return api.Expr{Kind: api.EName, Name: t.Text, Line: t.Line, Col: t.Col}
	}
	panic(misfit(t))
}

// joined is an expression of parts, which stands where its sign does.
func joined(kind api.ExprKind, sign api.Token, parts ...api.Expr) api.Expr {
	return api.Expr{Kind: kind, L: parts, Line: sign.Line, Col: sign.Col}
}
