package parse

import "recoup/api"

func (r *reader) shape() api.Shape {
	first := r.take()
	s := api.Shape{Kind: shapeKind(first), Line: first.Line, Col: first.Col}
	switch s.Kind {
	case api.SName:
		s.Name = first.Text
	case api.SReed, api.SCross:
		s.Args = bracketed(r, 2, (*reader).sum)
	case api.SLocal, api.SPyramid:
		s.Args = bracketed(r, 3, (*reader).sum)
	case api.SProduct, api.SJoin:
		s.Parts = bracketed(r, 2, (*reader).shape)
	case api.SMatrix:
		s.Rows = r.rows()
	default:
		panic(misfit(first))
	}
	return s
}

// shapeKind is that of a shape whose first token is t.
func shapeKind(t api.Token) api.ShapeKind {
	switch t.Text {
	case "reed":
		return api.SReed
	case "cross":
		return api.SCross
	case "local":
		return api.SLocal
	case "pyramid":
		return api.SPyramid
	case "product":
		return api.SProduct
	case "join":
		return api.SJoin
	case "matrix":
		return api.SMatrix
	}
	if t.Kind == api.TName {
		return api.SName
	}
	return api.NoShape
}

// bracketed is so many parts in round brackets, with commas between them.
func bracketed[T any](r *reader, count int, part func(*reader) T) []T {
	var l []T
	r.sign("(")
	for i := range count {
		if i > 0 {
			r.sign(",")
		}
		l = append(l, part(r))
	}
	r.sign(")")
	return l
}

func (r *reader) rows() [][]api.Expr {
	r.sign("[")
	l := [][]api.Expr{r.row()}
	for r.more(";") {
		l = append(l, r.row())
	}
	r.sign("]")
	return l
}
