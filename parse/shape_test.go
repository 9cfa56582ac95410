package parse_test

import (
	"strings"
	"testing"

	"recoup/api"
)

// P11.2 of shapes.

func TestShapeOfExamples(t *testing.T) {
	shapeIs(t, "matrix [1, 0; 0, 1]", table([]api.Expr{num(1), num(0)}, []api.Expr{num(0), num(1)}))
	shapeFails(t, "reed(4)", api.ErrSyntax, 1, 7)
	shapeFails(t, "x y", api.ErrSyntax, 1, 3)
}

func TestShapeOfEachKind(t *testing.T) {
	a, sum := name("a"), two(api.EAdd, num(1), num(2))
	shapeIs(t, "x", shaped("x"))
	shapeIs(t, "reeds", shaped("reeds"))
	shapeIs(t, "reed(a,1+2)", of(api.SReed, a, sum))
	shapeIs(t, "cross(1+2,a)", of(api.SCross, sum, a))
	shapeIs(t, "local(a,1+2,(3))", of(api.SLocal, a, sum, num(3)))
	shapeIs(t, "pyramid(-1,a,(a))", of(api.SPyramid, neg(num(1)), a, a))
	shapeIs(t, "product(x,y)", both(api.SProduct, shaped("x"), shaped("y")))
	shapeIs(t, "join(x,y)", both(api.SJoin, shaped("x"), shaped("y")))
	shapeIs(t, "join(product(x,reed(1,2)),join(matrix[3],y))", both(api.SJoin,
		both(api.SProduct, shaped("x"), of(api.SReed, num(1), num(2))),
		both(api.SJoin, table([]api.Expr{num(3)}), shaped("y"))))
}

func TestShapeOfMatrices(t *testing.T) {
	shapeIs(t, "matrix[0]", table([]api.Expr{num(0)}))
	shapeIs(t, "matrix[1,2,3]", table([]api.Expr{num(1), num(2), num(3)}))
	shapeIs(t, "matrix[1;2;3]", table([]api.Expr{num(1)}, []api.Expr{num(2)}, []api.Expr{num(3)}))
	// Rows may differ in length: that they must not is no rule of the grammar.
	shapeIs(t, "matrix[1;2,a*3;-4,5,6]", table([]api.Expr{num(1)}, []api.Expr{num(2), two(api.EMul, name("a"), num(3))},
		[]api.Expr{neg(num(4)), num(5), num(6)}))
	for rows := 1; rows <= 8; rows++ {
		for cols := 1; cols <= 8; cols++ {
			text := strings.Repeat(";"+strings.Repeat(",1", cols)[1:], rows)[1:]
			shapeIs(t, "matrix["+text+"]", sized(rows, cols))
		}
	}
}

func TestShapePlaces(t *testing.T) {
	shapeIs(t, "\n join (x ,\nmatrix[ 1 ;\n2])", api.Shape{Kind: api.SJoin, Line: 2, Col: 2, Parts: []api.Shape{
		{Kind: api.SName, Name: "x", Line: 2, Col: 8},
		{Kind: api.SMatrix, Line: 3, Col: 1, Rows: [][]api.Expr{
			{{Kind: api.ENumber, N: 1, Line: 3, Col: 9}}, {{Kind: api.ENumber, N: 2, Line: 4, Col: 1}}}}}})
	shapeIs(t, "#\n#\n reed#(\n(-\na,#\n\n((2)))", api.Shape{Kind: api.SReed, Line: 3, Col: 2, Args: []api.Expr{
		{Kind: api.ENegate, Line: 4, Col: 2, L: []api.Expr{{Kind: api.EName, Name: "a", Line: 5, Col: 1}}},
		{Kind: api.ENumber, N: 2, Line: 7, Col: 3}}})
	for seed := range 3000 {
		from := seeded(seed)
		text, want := writtenShape(from, from.shape(1+from.below(4)))
		shapeIs(t, text, want)
	}
}

func TestShapeOfWrongTexts(t *testing.T) {
	shapeFails(t, "", api.ErrSyntax, 1, 1)
	shapeFails(t, "  ", api.ErrSyntax, 1, 3)
	shapeFails(t, "# x\n", api.ErrSyntax, 2, 1)
	shapeFails(t, "7", api.ErrSyntax, 1, 1)
	shapeFails(t, "(x)", api.ErrSyntax, 1, 1)
	shapeFails(t, "x + y", api.ErrSyntax, 1, 3)
	shapeFails(t, "x(1)", api.ErrSyntax, 1, 2)
	shapeFails(t, "x;", api.ErrSyntax, 1, 2)
	shapeFails(t, "reed", api.ErrSyntax, 1, 5)
	shapeFails(t, "reed[4,2]", api.ErrSyntax, 1, 5)
	shapeFails(t, "reed()", api.ErrSyntax, 1, 6)
	shapeFails(t, "reed(4,)", api.ErrSyntax, 1, 8)
	shapeFails(t, "reed(4,2,1)", api.ErrSyntax, 1, 9)
	shapeFails(t, "reed(4;2)", api.ErrSyntax, 1, 7)
	shapeFails(t, "reed(x,reed(1,2))", api.ErrSyntax, 1, 8)
	shapeFails(t, "cross(4)", api.ErrSyntax, 1, 8)
	shapeFails(t, "cross(4,2,1)", api.ErrSyntax, 1, 10)
	shapeFails(t, "local(4,2)", api.ErrSyntax, 1, 10)
	shapeFails(t, "local(4,2,1,0)", api.ErrSyntax, 1, 12)
	shapeFails(t, "pyramid(4,2)", api.ErrSyntax, 1, 12)
	shapeFails(t, "pyramid(4,2,1,0)", api.ErrSyntax, 1, 14)
	shapeFails(t, "product(x)", api.ErrSyntax, 1, 10)
	shapeFails(t, "product(x,y,z)", api.ErrSyntax, 1, 12)
	shapeFails(t, "join(x,1)", api.ErrSyntax, 1, 8)
	shapeFails(t, "join((x),y)", api.ErrSyntax, 1, 6)
	shapeFails(t, "join(x,y", api.ErrSyntax, 1, 9)
	shapeFails(t, "join(x,y))", api.ErrSyntax, 1, 10)
	shapeFails(t, "matrix(1)", api.ErrSyntax, 1, 7)
	shapeFails(t, "matrix[]", api.ErrSyntax, 1, 8)
	shapeFails(t, "matrix[1;]", api.ErrSyntax, 1, 10)
	shapeFails(t, "matrix[1,]", api.ErrSyntax, 1, 10)
	shapeFails(t, "matrix[;1]", api.ErrSyntax, 1, 8)
	shapeFails(t, "matrix[1 2]", api.ErrSyntax, 1, 10)
	shapeFails(t, "matrix[1\n;2", api.ErrSyntax, 2, 3)
	shapeFails(t, "matrix[1)", api.ErrSyntax, 1, 9)
	for _, word := range strings.Fields("code const domains list place row spiral spread tolerate use") {
		shapeFails(t, word, api.ErrSyntax, 1, 1)
		shapeFails(t, "join(x,\n"+word+")", api.ErrSyntax, 2, 1)
		shapeFails(t, "x "+word, api.ErrSyntax, 1, 3)
	}
}

// Shapes within shapes as deep as a text has room for.
func TestShapeOfTheDeepestTexts(t *testing.T) {
	shapeFails(t, strings.Repeat("join(", api.MaxText/5), api.ErrSyntax, 1, api.MaxText/5*5+1)
	deep := strings.Repeat("join(x,", 7000) + "x" + strings.Repeat(")", 7000)
	shapeFails(t, deep, api.ErrLimit, 1, 1)
	shapeFails(t, deep+")", api.ErrSyntax, 1, len(deep)+1)
}
