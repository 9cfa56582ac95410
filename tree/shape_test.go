package tree_test

import (
	"fmt"
	"math"
	"slices"
	"strings"
	"testing"

	"recoup/api"
	"recoup/tree"
)

// P10.1, P10.3: shapes.

func TestShapeOfExamples(t *testing.T) {
	shapeIs(t, of(api.SReed, num(4), num(2)), "reed ( 4 , 2 )")
	shapeIs(t, api.Shape{Kind: api.SMatrix, Rows: [][]api.Expr{{num(1), num(0)}, {num(0), num(1)}}}, "matrix [ 1 , 0 ; 0 , 1 ]")
}

func TestShapeOfEachKind(t *testing.T) {
	shapeIs(t, shaped("x"), "x")
	shapeIs(t, of(api.SCross, name("a"), neg(num(2))), "cross ( a , - 2 )")
	shapeIs(t, of(api.SLocal, num(4), num(2), num(0)), "local ( 4 , 2 , 0 )")
	shapeIs(t, of(api.SPyramid, num(1), two(api.ERest, num(2), num(3)), num(4)), "pyramid ( 1 , ( 2 % 3 ) , 4 )")
	shapeIs(t, both(api.SProduct, shaped("x"), shaped("y")), "product ( x , y )")
	shapeIs(t, both(api.SJoin, of(api.SReed, num(1), num(2)), both(api.SProduct, shaped("x"), table(1, 1, num(9)))), "join ( reed ( 1 , 2 ) , product ( x , matrix [ 9 ] ) )")
	shapeIs(t, table(1, 3, name("a")), "matrix [ a , a , a ]")
	shapeIs(t, table(3, 1, num(2)), "matrix [ 2 ; 2 ; 2 ]")
	shapeIs(t, api.Shape{Kind: api.SMatrix, Rows: [][]api.Expr{{num(1)}, {num(2), neg(num(3))}}}, "matrix [ 1 ; 2 , - 3 ]")
}

func TestNamesOfShapes(t *testing.T) {
	for _, text := range []string{"a", "z9", "joins", "abcdefghijklmnop"} {
		shapeIs(t, shaped(text), text)
	}
	for _, text := range badNames() {
		shapeIsNot(t, "the name "+short(text), shaped(text))
		shapeIsNot(t, "a join with the name "+short(text), both(api.SJoin, shaped("a"), shaped(text)))
	}
}

func TestKindsThatAreNoShape(t *testing.T) {
	shapeIsNot(t, "no kind", api.Shape{})
	for kind := range 256 {
		if kind >= int(api.SName) && kind <= int(api.SMatrix) {
			continue
		}
		for _, s := range shapes() {
			s.Kind = api.ShapeKind(kind)
			shapeIsNot(t, short(s), s)
			shapeIsNot(t, "a join with "+short(s), both(api.SJoin, s, shaped("a")))
		}
		shapeIsNot(t, fmt.Sprint("the kind ", kind), api.Shape{Kind: api.ShapeKind(kind)})
	}
}

func TestShapesWithFieldsTooMany(t *testing.T) {
	with := []any{"a", "use", " ", []api.Expr{num(1)}, []api.Expr{num(1), num(2)}, []api.Expr{num(1), num(2), num(3)}, make([]api.Expr, 1), []api.Shape{shaped("a")}, []api.Shape{shaped("a"), shaped("b")}, make([]api.Shape, 2), [][]api.Expr{{num(1)}}, [][]api.Expr{nil}}
	for _, s := range shapes() {
		l := crowded(s, shapeFields[s.Kind], with)
		if len(l) < 6 {
			t.Fatalf("%d fields too many of %s", len(l), short(s))
		}
		for _, made := range l {
			shapeIsNot(t, short(made), made.(api.Shape))
			shapeIsNot(t, "a join with "+short(made), both(api.SJoin, shaped("a"), made.(api.Shape)))
		}
	}
}

func TestShapesWithFieldsTooFew(t *testing.T) {
	for kind := api.SName; kind <= api.SMatrix; kind++ {
		shapeIsNot(t, fmt.Sprint("nothing of the kind ", kind), api.Shape{Kind: kind})
		shapeIsNot(t, fmt.Sprint("empty lists of the kind ", kind), api.Shape{Kind: kind, Args: []api.Expr{}, Parts: []api.Shape{}, Rows: [][]api.Expr{}})
	}
	for count := range 6 {
		for kind := api.SReed; kind <= api.SPyramid; kind++ {
			s := of(kind, slices.Repeat([]api.Expr{num(1)}, count)...)
			if count == strings.Count(shapeTexts[kind], "%s") {
				shapeIs(t, s, wholeShape(s).text)
			} else {
				shapeIsNot(t, short(s), s)
			}
		}
		for kind := api.SProduct; kind <= api.SJoin; kind++ {
			s := api.Shape{Kind: kind, Parts: slices.Repeat([]api.Shape{shaped("a")}, count)}
			if count == 2 {
				shapeIs(t, s, wholeShape(s).text)
			} else {
				shapeIsNot(t, short(s), s)
			}
		}
	}
	for kind := api.SReed; kind <= api.SJoin; kind++ {
		shapeIsNot(t, "very many arguments", api.Shape{Kind: kind, Args: make([]api.Expr, 1<<16)})
		shapeIsNot(t, "very many parts", api.Shape{Kind: kind, Parts: make([]api.Shape, 1<<16)})
	}
}

func TestShapesWithEmptyLists(t *testing.T) {
	for _, s := range shapes() {
		want := wholeShape(s).text
		if s.Args == nil {
			s.Args = []api.Expr{}
		}
		if s.Parts == nil {
			s.Parts = make([]api.Shape, 0, 3)
		}
		if s.Rows == nil {
			s.Rows = [][]api.Expr{}
		}
		shapeIs(t, s, want)
	}
}

func TestMatrices(t *testing.T) {
	for _, rows := range []int{1, 2, 63, api.MaxSide} {
		for _, cols := range []int{1, 2, 63, api.MaxSide} {
			s := table(rows, cols, num(1))
			shapeIs(t, s, wholeShape(s).text)
			s.Rows[rows-1] = slices.Repeat(s.Rows[rows-1], api.MaxSide)[:api.MaxSide]
			shapeIs(t, s, wholeShape(s).text)
			for _, at := range []int{0, rows / 2, rows - 1} {
				for _, bad := range [][]api.Expr{nil, {}, slices.Repeat([]api.Expr{num(1)}, api.MaxSide+1), make([]api.Expr, 1), {num(1), name("use")}, {num(-1), num(1)}} {
					made := copied(s)
					made.Rows[at] = bad
					shapeIsNot(t, fmt.Sprintf("a matrix of %d rows with %s at %d", rows, short(bad), at), made)
				}
			}
		}
		shapeIsNot(t, "a matrix with one column too many", table(rows, api.MaxSide+1, num(1)))
		shapeIsNot(t, "a matrix without columns", table(rows, 0, num(1)))
	}
	shapeIsNot(t, "a matrix with one row too many", table(api.MaxSide+1, 1, num(1)))
	shapeIsNot(t, "a matrix with one row too many", table(api.MaxSide+1, api.MaxSide, num(1)))
	shapeIsNot(t, "a matrix without rows", table(0, 0, num(1)))
	shapeIsNot(t, "a matrix of an empty row", api.Shape{Kind: api.SMatrix, Rows: [][]api.Expr{{}}})
	shapeIsNot(t, "a matrix of very many rows", api.Shape{Kind: api.SMatrix, Rows: make([][]api.Expr, 1<<16)})
}

// What is wrong is found in each expression and each part.
func TestShapesWithPartsThatMayNotBe(t *testing.T) {
	for _, bad := range []api.Expr{{}, num(-1), num(api.MaxNumber + 1), name("use"), nested(17), {Kind: api.ENumber, Line: 1, Name: "a"}} {
		for at := range 3 {
			args := []api.Expr{num(1), num(2), num(3)}
			args[at] = bad
			shapeIsNot(t, "local with "+short(bad), of(api.SLocal, args...))
			shapeIsNot(t, "pyramid with "+short(bad), of(api.SPyramid, args...))
			if at < 2 {
				shapeIsNot(t, "reed with "+short(bad), of(api.SReed, args[:2]...))
				shapeIsNot(t, "cross with "+short(bad), of(api.SCross, args[:2]...))
			}
		}
		s := of(api.SReed, num(1), bad)
		for kind := api.SProduct; kind <= api.SJoin; kind++ {
			shapeIsNot(t, "a part with "+short(bad), both(kind, s, shaped("a")))
			shapeIsNot(t, "a part with "+short(bad), both(kind, shaped("a"), s))
			shapeIsNot(t, "a part of a part with "+short(bad), both(kind, both(kind, shaped("b"), both(kind, s, shaped("a"))), shaped("a")))
		}
	}
}

func TestShapesDoNotAskForTheirPlace(t *testing.T) {
	for i, s := range shapes() {
		shapeIs(t, placed(s, i), wholeShape(s).text)
		s.Line, s.Col = math.MinInt, math.MaxInt
		shapeIs(t, s, wholeShape(s).text)
	}
}

func TestShapesAsDeepAsMayBe(t *testing.T) {
	for deep := 1; deep <= api.MaxNest; deep++ {
		s := nestedShape(deep)
		if f := wholeShape(s); f.deep != deep {
			t.Fatalf("the shape is %d deep, not %d", f.deep, deep)
		}
		shapeIs(t, s, wholeShape(s).text)
	}
	shapeIsNot(t, "one too deep", nestedShape(api.MaxNest+1))
	shapeIsNot(t, "one far too deep", nestedShape(1<<14))
	deepest := nestedShape(api.MaxNest)
	for kind := api.SProduct; kind <= api.SJoin; kind++ {
		shapeIsNot(t, "one too deep at the left", both(kind, deepest, shaped("a")))
		shapeIsNot(t, "one too deep at the right", both(kind, shaped("a"), deepest))
	}
}

// Expressions count from their own top, not from that of the shape.
func TestShapesWithDeepExprs(t *testing.T) {
	for _, inner := range []api.Shape{of(api.SReed, nested(16), num(1)), of(api.SPyramid, num(1), num(2), nested(16)), {Kind: api.SMatrix, Rows: [][]api.Expr{{num(1)}, {num(2), nested(16)}}}} {
		s := inner
		for range 15 {
			s = both(api.SJoin, shaped("a"), s)
		}
		shapeIs(t, s, wholeShape(s).text)
		shapeIsNot(t, "one too deep", both(api.SJoin, s, shaped("a")))
	}
	shapeIsNot(t, "an expression too deep", of(api.SReed, num(1), nested(17)))
	shapeIsNot(t, "an expression too deep in a matrix", table(2, 2, nested(17)))
}

// manyParts is a shape of so many parts, from 8131 to 8194.
func manyParts(count int) api.Shape {
	a, b := table(64, 64, num(1)), table(63, 64, num(1)) // 1 and 4096, 1 and 4032
	for i := range count - 8131 {
		a.Rows[i][63-i] = neg(num(2))
	}
	return both(api.SJoin, a, b)
}

func TestShapesOfAsMuchAsMayBe(t *testing.T) {
	for _, count := range []int{8131, 8190, 8191, api.MaxNodes} {
		s := manyParts(count)
		if f := wholeShape(s); f.parts != count {
			t.Fatalf("the shape has %d parts, not %d", f.parts, count)
		}
		shapeIs(t, s, wholeShape(s).text)
	}
	shapeIsNot(t, "one too many", manyParts(api.MaxNodes+1))
	shapeIsNot(t, "two too many", both(api.SProduct, manyParts(api.MaxNodes), shaped("a")))
	shapeIs(t, both(api.SProduct, manyParts(api.MaxNodes-2), shaped("a")), "product ( "+wholeShape(manyParts(api.MaxNodes-2)).text+" , a )")
	shapeIsNot(t, "one too many, a part ahead", both(api.SProduct, shaped("a"), manyParts(api.MaxNodes-1)))
	shapeIsNot(t, "two whole matrices", both(api.SJoin, table(64, 64, num(1)), table(64, 64, num(1))))
	most := full(12, num(1)) // 4095
	shapeIs(t, of(api.SReed, most, neg(most)), "reed ( "+wholeExpr(most).text+" , - "+wholeExpr(most).text+" )")
	shapeIs(t, of(api.SLocal, most, most, num(1)), "local ( "+wholeExpr(most).text+" , "+wholeExpr(most).text+" , 1 )")
	shapeIsNot(t, "one too many in the arguments", of(api.SReed, neg(most), neg(neg(most))))
	shapeIsNot(t, "one too many in the arguments", of(api.SPyramid, most, most, neg(neg(num(1)))))
	shapeIsNot(t, "one too many in one argument", of(api.SReed, full(13, num(1)), num(1)))
}

func TestShapesThatStandWithinThemselves(t *testing.T) {
	parts := make([]api.Shape, 2)
	for _, kind := range []api.ShapeKind{api.SProduct, api.SJoin} {
		self := api.Shape{Kind: kind, Parts: parts}
		parts[0], parts[1] = self, self
		shapeIsNot(t, "two of itself", self)
		parts[0], parts[1] = self, shaped("a")
		shapeIsNot(t, "itself at the left", self)
		parts[0], parts[1] = shaped("a"), self
		shapeIsNot(t, "itself at the right", self)
	}
	l := make([]api.Expr, 1)
	l[0] = api.Expr{Kind: api.ENegate, L: l}
	shapeIsNot(t, "an argument that stands within itself", of(api.SReed, num(1), l[0]))
	shapeIsNot(t, "arguments that stand within themselves", of(api.SCross, l[0], l[0]))
	shapeIsNot(t, "a row that stands within itself", api.Shape{Kind: api.SMatrix, Rows: [][]api.Expr{l}})
}

// endless is a shape of 2^15 matrices, each of 4096 expressions, each of
// 32767: all of them fit, and who does not count them as they are met does not
// come to an end.
func endless() api.Shape {
	s := table(api.MaxSide, api.MaxSide, full(15, num(1)))
	for range 15 {
		s = both(api.SProduct, s, s)
	}
	return s
}

func TestNoMoreIsLookedAtThanTheLimitsSay(t *testing.T) {
	shapeIsNot(t, "a shape that is all but endless", endless())
	itemsAreNot(t, "a description that is all but endless", slices.Repeat([]api.Item{code("x", endless())}, api.MaxItems)...)
	l := []api.Item{use("x"), code("x", endless())}
	if tree.Same(l, l) || tree.Same(l[:1], l[1:]) || tree.Same(l[1:], l[:1]) {
		t.Error("Same of a description that is all but endless")
	}
}

// A matrix of 64 rows and 64 columns has 12296 bytes beside its expressions.
func TestShapeTextsOfAsMuchAsMayBe(t *testing.T) {
	whole := func(size int) api.Shape {
		ends := long(4096, size)
		s := api.Shape{Kind: api.SMatrix}
		for row := range slices.Chunk(ends, 64) {
			s.Rows = append(s.Rows, row)
		}
		return s
	}
	room := api.MaxText - 12296
	shapeIs(t, whole(room), wholeShape(whole(room)).text)
	joined := both(api.SJoin, shaped("ab"), whole(room-14))
	shapeIs(t, joined, wholeShape(joined).text)
	if len(wholeShape(joined).text) != api.MaxText {
		t.Errorf("the text has %d bytes", len(wholeShape(joined).text))
	}
	for _, s := range []api.Shape{whole(room + 1), both(api.SJoin, shaped("abc"), whole(room-14)), whole(16 * 4096)} {
		if got, e := tree.ShapeText(s); got != "" || e != api.ErrLimit {
			t.Errorf("ShapeText of too much = %s, %v; want ErrLimit", short(got), e)
		}
		if !tree.MayShape(s) {
			t.Error("a shape may be though its text is too long")
		}
	}
	// What may not be is told ahead of that.
	for _, at := range []int{0, 30, 63} {
		for _, bad := range []api.Expr{{}, name("use"), num(-1), nested(17)} {
			s := whole(16 * 4096)
			s.Rows[at][at] = bad
			shapeIsNot(t, "too much, with "+short(bad), s)
		}
		s := whole(16 * 4096)
		s.Rows[at] = nil
		shapeIsNot(t, "too much, with an empty row", s)
	}
}
