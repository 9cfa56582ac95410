package tree

import (
	"recoup/api"
	"recoup/token"
)

// fitsExpr tells whether x has what its kind asks for, and nothing else; what
// stands in its list is not looked at.
func fitsExpr(x api.Expr) bool {
	parts := len(x.L)
	switch x.Kind {
	case api.ENumber, api.EName:
		return parts == 0 && token.May(leaf(x))
	case api.EAdd, api.ESub, api.EMul, api.EDiv, api.ERest:
		// These ask for one part more, and else alike.
		parts--
		fallthrough
	case api.ENegate:
		return parts == 1 && x.N == 0 && x.Name == ""
	}
	return false
}

// shapeFields says what stands in a shape's fields: of lists with a fixed
// number how many.
type shapeFields struct {
	name, rows  bool
	args, parts int
}

func askedOfShape(kind api.ShapeKind) (asked shapeFields, known bool) {
	switch kind {
	case api.SName:
		asked.name = true
	case api.SLocal, api.SPyramid:
		asked.args++
		fallthrough
	case api.SReed, api.SCross:
		asked.args += 2
	case api.SProduct, api.SJoin:
		asked.parts = 2
	case api.SMatrix:
		asked.rows = true
	default:
		return asked, false
	}
	return asked, true
}

// fitsShape tells of s what fitsExpr tells of an expression.
func fitsShape(s api.Shape) bool {
	asked, known := askedOfShape(s.Kind)
	has := shapeFields{
		name:  s.Name != "",
		rows:  len(s.Rows) > 0,
		args:  len(s.Args),
		parts: len(s.Parts),
	}
	if !known || asked != has || asked.name && !isName(s.Name) || len(s.Rows) > api.MaxSide {
		return false
	}
	for _, row := range s.Rows {
		if len(row) == 0 || len(row) > api.MaxSide {
			return false
		}
	}
	return true
}

// itemFields says which of an item's fields have something in them.
type itemFields struct {
	name, value, shape, place, list bool
}

func askedOfItem(kind api.ItemKind, place api.PlaceKind) (asked itemFields, known bool) {
	switch kind {
	case api.IConst:
		asked.name = true
		fallthrough
	case api.IDomains, api.ITolerate:
		asked.value = true
	case api.ICode:
		asked.shape = true
		fallthrough
	case api.IUse:
		asked.name = true
	case api.IPlace:
		return askedOfPlace(place)
	default:
		return asked, false
	}
	return asked, true
}

func askedOfPlace(place api.PlaceKind) (asked itemFields, known bool) {
	switch place {
	case api.PSpiral:
		asked.value = true
		fallthrough
	case api.PRow, api.PSpread:
		asked.place = true
	case api.PList:
		asked.place, asked.list = true, true
	default:
		return asked, false
	}
	return asked, true
}

// fitsItem tells whether t has what is asked for, and nothing else; what
// stands in its expressions and its shape is not looked at.
func fitsItem(t api.Item, asked itemFields) bool {
	has := itemFields{
		name:  t.Name != "",
		value: !isZeroExpr(t.Value),
		shape: !isZeroShape(t.Shape),
		place: t.Place != api.NoPlace,
		list:  len(t.List) > 0,
	}
	return asked == has && (!asked.name || isName(t.Name)) && len(t.List) <= api.MaxSide
}

func isZeroExpr(x api.Expr) bool {
	return x.Kind == api.NoExpr && x.N == 0 && x.Name == "" && len(x.L) == 0 && x.Line == 0 && x.Col == 0
}

func isZeroShape(s api.Shape) bool {
	return s.Kind == api.NoShape && s.Name == "" && len(s.Args) == 0 && len(s.Parts) == 0 && len(s.Rows) == 0 && s.Line == 0 && s.Col == 0
}
