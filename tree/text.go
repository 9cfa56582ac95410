package tree

import (
	"recoup/api"
	"recoup/token"
)

// What stands in a text for a kind. Of shapes a name has no word of its own.
var (
	exprSigns  = [...]string{api.ENegate: "-", api.EAdd: "+", api.ESub: "-", api.EMul: "*", api.EDiv: "/", api.ERest: "%"}
	shapeWords = [...]string{api.SReed: "reed", api.SCross: "cross", api.SLocal: "local", api.SPyramid: "pyramid", api.SProduct: "product", api.SJoin: "join", api.SMatrix: "matrix"}
	itemWords  = [...]string{api.IConst: "const", api.ICode: "code", api.IUse: "use", api.IDomains: "domains", api.IPlace: "place", api.ITolerate: "tolerate"}
	placeWords = [...]string{api.PRow: "row", api.PSpread: "spread", api.PSpiral: "spiral", api.PList: "list"}
)

// ExprText is the text of an expression.
func ExprText(x api.Expr) (string, api.Errno) {
	if !MayExpr(x) {
		return "", api.ErrArg
	}
	put, text := line()
	putExpr(put, x)
	return text()
}

// ShapeText is the text of a shape.
func ShapeText(s api.Shape) (string, api.Errno) {
	if !MayShape(s) {
		return "", api.ErrArg
	}
	put, text := line()
	putShape(put, s)
	return text()
}

// Text is the text of a description, each item in a line of its own.
func Text(l ...api.Item) (string, api.Errno) {
	if !May(l...) {
		return "", api.ErrArg
	}
	var all []byte
	for _, t := range l {
		put, text := line()
		putItem(put, t)
		told, e := text()
		all = append(append(all, told...), '\n')
		if e != api.OK || len(all) > api.MaxText {
			return "", api.ErrLimit
		}
	}
	return string(all), api.OK
}

// line is a function that puts a token behind those put before, and one that
// tells their text.
func line() (put func(api.Token), text func() (string, api.Errno)) {
	var tokens []api.Token
	put = func(t api.Token) { tokens = append(tokens, t) }
	text = func() (string, api.Errno) { return token.Join(tokens...) }
	return put, text
}

func putExpr(put func(api.Token), x api.Expr) {
	switch len(x.L) {
	case 0:
		put(leaf(x))
	case 1:
		put(sign(exprSigns[x.Kind]))
		putExpr(put, x.L[0])
	default:
		put(sign("("))
		putExpr(put, x.L[0])
		put(sign(exprSigns[x.Kind]))
		putExpr(put, x.L[1])
		put(sign(")"))
	}
}

func putExprs(put func(api.Token), l []api.Expr) {
	for i, x := range l {
		if i > 0 {
			put(sign(","))
		}
		putExpr(put, x)
	}
}

func putShape(put func(api.Token), s api.Shape) {
	switch s.Kind {
	case api.SName:
		put(name(s.Name))
	case api.SMatrix:
		put(word(shapeWords[s.Kind]))
		put(sign("["))
		putRows(put, s.Rows)
		put(sign("]"))
	default:
		put(word(shapeWords[s.Kind]))
		put(sign("("))
		putExprs(put, s.Args)
		putParts(put, s.Parts)
		put(sign(")"))
	}
}

func putRows(put func(api.Token), rows [][]api.Expr) {
	for i, row := range rows {
		if i > 0 {
			put(sign(";"))
		}
		putExprs(put, row)
	}
}

func putParts(put func(api.Token), parts []api.Shape) {
	for i, s := range parts {
		if i > 0 {
			put(sign(","))
		}
		putShape(put, s)
	}
}

func putItem(put func(api.Token), t api.Item) {
	put(word(itemWords[t.Kind]))
	switch t.Kind {
	case api.IConst:
		put(name(t.Name))
		put(sign("="))
		fallthrough
	case api.IDomains, api.ITolerate:
		putExpr(put, t.Value)
	case api.ICode:
		put(name(t.Name))
		put(sign("="))
		putShape(put, t.Shape)
	case api.IUse:
		put(name(t.Name))
	case api.IPlace:
		putPlace(put, t)
	}
	put(sign(";"))
}

func putPlace(put func(api.Token), t api.Item) {
	put(word(placeWords[t.Place]))
	switch t.Place {
	case api.PSpiral:
		putExpr(put, t.Value)
	case api.PList:
		put(sign("["))
		putExprs(put, t.List)
		put(sign("]"))
	}
}

// leaf is an expression without parts as the token that it is.
func leaf(x api.Expr) api.Token {
	kind := api.TNumber
	if x.Kind == api.EName {
		kind = api.TName
	}
	// Both fields go along, so that one too many is one of the token, too.
	return api.Token{Kind: kind, Text: x.Name, N: x.N}
}

func name(text string) api.Token { return api.Token{Kind: api.TName, Text: text} }
func word(text string) api.Token { return api.Token{Kind: api.TWord, Text: text} }
func sign(text string) api.Token { return api.Token{Kind: api.TSign, Text: text} }
