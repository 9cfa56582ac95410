package parse_test

import (
	"slices"
	"strings"
	"testing"

	"recoup/api"
	"recoup/parse"
	"recoup/tree"
)

// The edges of P11.1 and P11.2: trees that may just be, and those one past
// them.

// exprTight is a text of an expression with no more in it than must be.
func exprTight(x api.Expr) string {
	text, _ := writtenExpr(nil, x)
	return text
}

func shapeTight(s api.Shape) string {
	text, _ := writtenShape(nil, s)
	return text
}

func TestDeepExprs(t *testing.T) {
	for deep := 1; deep <= 40; deep++ {
		for _, text := range []string{
			strings.Repeat("-", deep-1) + "1",
			"1" + strings.Repeat("+1", deep-1),
			"1" + strings.Repeat("/a", deep-1),
			strings.Repeat("1-(", deep-1) + "1" + strings.Repeat(")", deep-1),
			strings.Repeat("(", deep-1) + "1" + strings.Repeat("%2)", deep-1),
			exprTight(nested(deep)),
		} {
			if deep > api.MaxNest {
				exprFails(t, text, api.ErrLimit, 1, 1)
				exprFails(t, "\n\n  "+text, api.ErrLimit, 1, 1)
				programFails(t, "use x;\n domains "+text+";", api.ErrLimit, 2, 2)
				shapeFails(t, "\nreed(1,"+text+")", api.ErrLimit, 1, 1)
				continue
			}
			x, f := parse.Expr(text)
			if tree.Deep(x) != deep || f != (api.Fault{}) {
				t.Errorf("Expr(%s) is %d deep, %v; want %d", brief(text), tree.Deep(x), f, deep)
			}
			programIs(t, "use x;\n domains "+text+";", use("x"), domains(nowhere(x)))
			shapeIs(t, "\nreed(1,"+text+")", of(api.SReed, num(1), nowhere(x)))
		}
	}
	exprIs(t, exprTight(nested(api.MaxNest)), nested(api.MaxNest))
}

// A sum and a term of many parts lie one in the other, too.
func TestDeepSumsOfTerms(t *testing.T) {
	term := "1" + strings.Repeat("*1", 8)
	exprIs(t, term+strings.Repeat("+1", 7), deepen(api.EAdd, deepen(api.EMul, num(1), 8), 7))
	exprFails(t, term+strings.Repeat("+1", 8), api.ErrLimit, 1, 1)
	// Behind a sum a term lies one deeper than its sign alone.
	exprIs(t, "1+"+strings.Repeat("-", 14)+"1", two(api.EAdd, num(1), deepen(api.ENegate, num(1), 14)))
	exprFails(t, "1+"+strings.Repeat("-", 15)+"1", api.ErrLimit, 1, 1)
}

// deepen puts an expression so many times into another.
func deepen(kind api.ExprKind, x api.Expr, times int) api.Expr {
	for range times {
		if kind == api.ENegate {
			x = neg(x)
		} else {
			x = two(kind, x, num(1))
		}
	}
	return x
}

func TestDeepShapes(t *testing.T) {
	for deep := 1; deep <= 40; deep++ {
		text := shapeTight(nestedShape(deep))
		if deep > api.MaxNest {
			shapeFails(t, text, api.ErrLimit, 1, 1)
			shapeFails(t, " \n "+text, api.ErrLimit, 1, 1)
			programFails(t, "use x;code y="+text+";use x;", api.ErrLimit, 1, 7)
			continue
		}
		shapeIs(t, text, nestedShape(deep))
		programIs(t, "use x;code y="+text+";use x;", use("x"), code("y", nestedShape(deep)), use("x"))
	}
	// What stands in a shape counts its depth from its own top.
	s := nestedShape(api.MaxNest - 1)
	s = both(api.SJoin, s, of(api.SReed, nested(api.MaxNest), num(1)))
	shapeIs(t, shapeTight(s), s)
}

func TestManyItems(t *testing.T) {
	for _, count := range []int{1, 2, 63, 64, 65, 66, 128, 1000, 9000} {
		text := strings.Repeat("use x;\n", count)
		if count > api.MaxItems {
			programFails(t, text, api.ErrLimit, 65, 1)
			programFails(t, strings.Repeat("use x;", count), api.ErrLimit, 1, 64*6+1)
			continue
		}
		programIs(t, text, slices.Repeat([]api.Item{use("x")}, count)...)
	}
	programFails(t, strings.Repeat("use x;", 64)+" \n place row ;", api.ErrLimit, 2, 2)
}

func TestLongRowsAndLists(t *testing.T) {
	for _, side := range []int{1, 63, 64, 65, 66, 200, 5000} {
		row := strings.Repeat(",1", side)[1:]
		column := strings.Repeat(";1", side)[1:]
		if side > api.MaxSide {
			shapeFails(t, " matrix["+row+"]", api.ErrLimit, 1, 1)
			shapeFails(t, "\nmatrix["+column+"]", api.ErrLimit, 1, 1)
			shapeFails(t, "matrix[1;"+row+";1]", api.ErrLimit, 1, 1)
			programFails(t, "use x;\n place list["+row+"];", api.ErrLimit, 2, 2)
			programFails(t, "use x;\n\n code x = matrix["+column+"];", api.ErrLimit, 3, 2)
			programFails(t, "use x;\n\n code x = join(x, matrix["+row+"]);", api.ErrLimit, 3, 2)
			continue
		}
		shapeIs(t, "matrix["+row+"]", sized(1, side))
		shapeIs(t, "matrix["+column+"]", sized(side, 1))
		programIs(t, "place list["+row+"];", listed(ones(side)...))
	}
	shapeIs(t, shapeTight(sized(64, 64)), sized(64, 64))
	shapeFails(t, shapeTight(sized(64, 65)), api.ErrLimit, 1, 1)
	shapeFails(t, shapeTight(sized(65, 64)), api.ErrLimit, 1, 1)
}

// most is an expression of MaxNodes parts.
func most() api.Expr {
	x := full(13)
	x.L[0].L[0].L[0] = neg(x.L[0].L[0].L[0])
	return x
}

func TestManyPartsOfExprs(t *testing.T) {
	exprIs(t, exprTight(full(13)), full(13))
	exprIs(t, exprTight(most()), most())
	exprFails(t, exprTight(neg(most())), api.ErrLimit, 1, 1)
	exprFails(t, "\n "+exprTight(full(14)), api.ErrLimit, 1, 1)
}

func TestManyPartsOfShapes(t *testing.T) {
	s := both(api.SJoin, holding(4096), holding(4093))
	shapeIs(t, shapeTight(s), s)
	shapeFails(t, shapeTight(both(api.SJoin, holding(4096), holding(4094))), api.ErrLimit, 1, 1)
	shapeFails(t, "\n "+shapeTight(both(api.SProduct, holding(4096), holding(4096))), api.ErrLimit, 1, 1)
}

// Parts of all items count together: those of a code with a matrix of n are
// n and two.
func TestManyPartsOfItems(t *testing.T) {
	first, second := code("x", holding(4000)), code("y", holding(4000))
	l := []api.Item{first, second, code("z", holding(8192-2*4002-2))}
	programIs(t, tight(l...), l...)
	programFails(t, tight(l...)+"\nplace row;", api.ErrLimit, 2, 1)
	l = []api.Item{first, second, code("z", holding(8192-2*4002-2-1)), row()}
	programIs(t, tight(l...), l...)
	programFails(t, tight(l...)+"\n\n place row;use x;", api.ErrLimit, 3, 2)
	// An item that goes past the limit, or is the last one that does not,
	// whatever comes behind it.
	for more, line := range []int{3, 2} {
		big := code("y", both(api.SJoin, holding(4096), holding(8192-4002-4096-4+more)))
		programFails(t, lined(tight(first), tight(big), tight(row()), tight(second)), api.ErrLimit, line, 1)
	}
	programFails(t, lined(tight(row()), tight(first), " "+tight(first), tight(second)), api.ErrLimit, 4, 1)
	// One item alone, with the item itself among the parts.
	programFails(t, tight(domains(most())), api.ErrLimit, 1, 1)
	programIs(t, tight(domains(full(13))), domains(full(13)))
	programFails(t, tight(domains(full(13)))+"\nuse x;", api.ErrLimit, 2, 1)
}

// The first item with which the items may not be, where several are too much.
func TestTheFirstItemTooMuch(t *testing.T) {
	deep := tight(domains(nested(17)))
	wide := tight(listed(ones(65)...))
	for bad := range 70 {
		texts := slices.Repeat([]string{"use x;"}, 75)
		texts[bad], texts[72] = " "+deep, deep
		programFails(t, lined(texts...), api.ErrLimit, min(bad+1, 65), 1+boolInt(bad < 65))
		texts = slices.Repeat([]string{"place row;"}, bad+1)
		texts[bad] = "\t" + wide
		programFails(t, lined(texts...), api.ErrLimit, min(bad+1, 65), 1+boolInt(bad <= 64))
	}
	programFails(t, lined("use x;", wide, deep, "use x;"), api.ErrLimit, 2, 1)
	programFails(t, lined("use x;", deep, wide, "use x;"), api.ErrLimit, 2, 1)
	// Too deep at the one, too many parts from an earlier one on.
	big := tight(code("x", holding(4096)))
	programFails(t, lined(big, "use x;", big, deep), api.ErrLimit, 3, 1)
	programFails(t, lined(big, deep, big), api.ErrLimit, 2, 1)
}

func boolInt(b bool) int {
	if b {
		return 1
	}
	return 0
}

// What is no description is told as that, however much it holds.
func TestFaultsOfSyntaxComeAheadOfLimits(t *testing.T) {
	for _, much := range []string{strings.Repeat("use x;", 65), tight(domains(nested(17))), tight(listed(ones(65)...)),
		tight(domains(full(14))), tight(code("x", nestedShape(17))), tight(code("x", sized(1, 65))), strings.Repeat("use x;", 5000)} {
		line := len(much) + 1
		programFails(t, much, api.ErrLimit, 1, limitCol(much))
		programFails(t, much+"use", api.ErrSyntax, 1, line+3)
		programFails(t, much+";", api.ErrSyntax, 1, line)
		programFails(t, much+"\n place up;"+much, api.ErrSyntax, 2, 8)
		programFails(t, "use x; use\n use;"+much, api.ErrSyntax, 2, 2)
		programFails(t, much[:len(much)-1], api.ErrSyntax, 1, line-1)
		programFails(t, much+" ! use", api.ErrLex, 1, line+1)
	}
	for _, much := range []string{exprTight(nested(17)), exprTight(full(14)), strings.Repeat("-", 1000) + "1"} {
		exprFails(t, much, api.ErrLimit, 1, 1)
		exprFails(t, much+" 1", api.ErrSyntax, 1, len(much)+2)
		exprFails(t, much+"+", api.ErrSyntax, 1, len(much)+2)
		exprFails(t, "("+much, api.ErrSyntax, 1, len(much)+2)
		exprFails(t, "1 1 "+much, api.ErrSyntax, 1, 3)
		exprFails(t, much+" 01", api.ErrLex, 1, len(much)+2)
	}
	for _, much := range []string{shapeTight(nestedShape(17)), shapeTight(sized(65, 1)), shapeTight(both(api.SJoin, sized(64, 64), sized(64, 64)))} {
		shapeFails(t, much, api.ErrLimit, 1, 1)
		shapeFails(t, much+" x", api.ErrSyntax, 1, len(much)+2)
		shapeFails(t, "join(x,\n"+much, api.ErrSyntax, 2, len(much)+1)
		shapeFails(t, much+" 01", api.ErrLex, 1, len(much)+2)
	}
}

// limitCol is the column of the first item that is too much: the 65th of many
// short ones, else the first.
func limitCol(text string) int {
	if strings.HasPrefix(text, "use x;use x;") {
		return 64*len("use x;") + 1
	}
	return 1
}

// A text that is too long is told as that alone.
func TestLongTexts(t *testing.T) {
	for _, text := range []string{"", "use x;", "use use", "!", ")", strings.Repeat("use x;", 100)} {
		long := text + strings.Repeat(" ", api.MaxText-len(text))
		if text == "use x;" {
			programIs(t, long, use("x"))
			tidyIs(t, long, "use x ;\n")
		}
		for _, more := range []string{" ", "\n", "!", "use", long} {
			programFails(t, long+more, api.ErrLimit, 1, 1)
			exprFails(t, long+more, api.ErrLimit, 1, 1)
			shapeFails(t, long+more, api.ErrLimit, 1, 1)
		}
	}
	exprIs(t, strings.Repeat("\n", api.MaxText-1)+"1", api.Expr{Kind: api.ENumber, N: 1, Line: api.MaxText, Col: 1})
	shapeIs(t, strings.Repeat(" ", api.MaxText-1)+"x", api.Shape{Kind: api.SName, Name: "x", Line: 1, Col: api.MaxText})
	exprFails(t, strings.Repeat(" ", api.MaxText), api.ErrSyntax, 1, api.MaxText+1)
	exprFails(t, strings.Repeat("\n", api.MaxText), api.ErrSyntax, api.MaxText+1, 1)
	exprFails(t, strings.Repeat("1+", api.MaxText/2), api.ErrSyntax, 1, api.MaxText+1)
	exprFails(t, strings.Repeat("1+", api.MaxText/2-1)+"1", api.ErrLimit, 1, 1)
}
