package parse_test

import (
	"strings"
	"testing"

	"recoup/api"
)

// P11.2 of expressions.

func TestExprOfExamples(t *testing.T) {
	exprIs(t, "1 + 2 * 3", two(api.EAdd, num(1), two(api.EMul, num(2), num(3))))
	exprIs(t, "1 - 2 - 3", two(api.ESub, two(api.ESub, num(1), num(2)), num(3)))
	exprIs(t, "- a * 2", two(api.EMul, neg(name("a")), num(2)))
	exprIs(t, "(1)", num(1))
	exprFails(t, "", api.ErrSyntax, 1, 1)
	exprFails(t, "1 +", api.ErrSyntax, 1, 4)
	exprFails(t, "1 2", api.ErrSyntax, 1, 3)
	exprFails(t, ")", api.ErrSyntax, 1, 1)
}

func TestExprOfNumbersAndNames(t *testing.T) {
	for _, n := range []int{0, 1, 9, 10, 64, 999, api.MaxNumber - 1, api.MaxNumber} {
		exprIs(t, decimal(n), num(n))
		exprIs(t, "  "+decimal(n)+" ", api.Expr{Kind: api.ENumber, N: n, Line: 1, Col: 3})
	}
	for _, text := range []string{"a", "z9", "used", "codes", "abcdefghijklmnop", "rows", "r"} {
		exprIs(t, text, name(text))
		exprIs(t, "\n\t"+text, api.Expr{Kind: api.EName, Name: text, Line: 2, Col: 2})
	}
}

func TestExprOfTwoParts(t *testing.T) {
	for _, kind := range pairKinds {
		sign := signOf(kind)
		want := api.Expr{Kind: kind, Line: 1, Col: 2, L: []api.Expr{
			{Kind: api.EName, Name: "a", Line: 1, Col: 1}, {Kind: api.ENumber, N: 7, Line: 1, Col: 3}}}
		exprIs(t, "a"+sign+"7", want)
		exprIs(t, "7 "+sign+" 7", two(kind, num(7), num(7)))
		exprIs(t, "(7"+sign+"b)", two(kind, num(7), name("b")))
		exprIs(t, "(7)"+sign+"(b)", two(kind, num(7), name("b")))
	}
}

// Of three parts and two signs, any ones, the second sign is the inner one
// just if it alone binds tight.
func TestExprOfThreeParts(t *testing.T) {
	a, b, c := name("a"), num(2), name("c")
	for _, first := range pairKinds {
		for _, second := range pairKinds {
			left, right := signOf(first), signOf(second)
			fromLeft, fromRight := two(second, two(first, a, b), c), two(first, a, two(second, b, c))
			want := fromLeft
			if bindsTight(second) && !bindsTight(first) {
				want = fromRight
			}
			exprIs(t, "a"+left+"2"+right+"c", want)
			exprIs(t, "(a"+left+"2)"+right+"c", fromLeft)
			exprIs(t, "a"+left+"(2"+right+"c)", fromRight)
			exprIs(t, "(a"+left+"2"+right+"c)", want)
		}
	}
}

// More parts: first the signs that bind tight, from the left, then the others.
func TestExprOfManyParts(t *testing.T) {
	for seed := range 2000 {
		from := seeded(seed)
		text := "0"
		terms, kinds := []api.Expr{num(0)}, []api.ExprKind{}
		for i := range 1 + from.below(12) {
			kind := one(from, pairKinds)
			text += signOf(kind) + decimal(i+1)
			if last := len(terms) - 1; bindsTight(kind) {
				terms[last] = two(kind, terms[last], num(i+1))
			} else {
				terms, kinds = append(terms, num(i+1)), append(kinds, kind)
			}
		}
		want := terms[0]
		for i, kind := range kinds {
			want = two(kind, want, terms[i+1])
		}
		exprIs(t, text, want)
	}
}

func TestExprOfOneSign(t *testing.T) {
	for _, kind := range pairKinds {
		want, text := num(1), "1"
		for i := range 15 {
			want, text = two(kind, want, num(i)), text+signOf(kind)+decimal(i)
			exprIs(t, text, want)
		}
	}
}

func TestExprOfNegations(t *testing.T) {
	want, text := num(5), "5"
	for range 15 {
		want, text = neg(want), "-"+text
		exprIs(t, text, want)
		exprIs(t, strings.ReplaceAll(text, "-", " - "), want)
		exprIs(t, strings.ReplaceAll(text, "-", "-(")+strings.Repeat(")", len(text)-1), want)
	}
	a, b := name("a"), name("b")
	exprIs(t, "a--b", two(api.ESub, a, neg(b)))
	exprIs(t, "a---b", two(api.ESub, a, neg(neg(b))))
	exprIs(t, "-a-b", two(api.ESub, neg(a), b))
	exprIs(t, "-a+-b", two(api.EAdd, neg(a), neg(b)))
	for _, kind := range pairKinds {
		sign := signOf(kind)
		exprIs(t, "-a"+sign+"-b", two(kind, neg(a), neg(b)))
		exprIs(t, "-(a"+sign+"b)", neg(two(kind, a, b)))
		exprIs(t, "--a"+sign+"b", two(kind, neg(neg(a)), b))
	}
	exprIs(t, "a*-b*a", two(api.EMul, two(api.EMul, a, neg(b)), a))
	exprIs(t, "-(-(a)-b)", neg(two(api.ESub, neg(a), b)))
}

func TestExprOfBrackets(t *testing.T) {
	for _, count := range []int{1, 2, 15, 16, 17, 100, 5000} {
		open, shut := strings.Repeat("(", count), strings.Repeat(")", count)
		exprIs(t, open+"a"+shut, api.Expr{Kind: api.EName, Name: "a", Line: 1, Col: count + 1})
		exprIs(t, open+"1+2"+shut+"*3", two(api.EMul, two(api.EAdd, num(1), num(2)), num(3)))
		exprIs(t, "3-"+open+"1-2"+shut, two(api.ESub, num(3), two(api.ESub, num(1), num(2))))
		exprIs(t, "-"+open+"-1"+shut, neg(neg(num(1))))
		exprFails(t, open+"1"+shut[1:], api.ErrSyntax, 1, 2*count+1)
		exprFails(t, open+"1"+shut+")", api.ErrSyntax, 1, 2*count+2)
		exprFails(t, open+shut, api.ErrSyntax, 1, count+1)
	}
	exprIs(t, "((1)+((2)))", two(api.EAdd, num(1), num(2)))
	exprIs(t, "((1-(2-(3-4)))-5)", two(api.ESub, two(api.ESub, num(1), two(api.ESub, num(2), two(api.ESub, num(3), num(4)))), num(5)))
}

// As many brackets as a text has room for make no expression of their own.
func TestExprOfTheMostBrackets(t *testing.T) {
	half := api.MaxText/2 - 1
	open, shut := strings.Repeat("(", half), strings.Repeat(")", half)
	exprIs(t, open+"7"+shut+" ", api.Expr{Kind: api.ENumber, N: 7, Line: 1, Col: half + 1})
	exprIs(t, open+"-7"+shut, neg(num(7)))
	exprFails(t, strings.Repeat("(", api.MaxText), api.ErrSyntax, 1, api.MaxText+1)
	exprFails(t, strings.Repeat("-", api.MaxText), api.ErrSyntax, 1, api.MaxText+1)
	exprFails(t, strings.Repeat("-(", api.MaxText/2), api.ErrSyntax, 1, api.MaxText+1)
	exprFails(t, strings.Repeat(")", api.MaxText), api.ErrSyntax, 1, 1)
}

func TestExprPlaces(t *testing.T) {
	exprIs(t, "a +\n b", api.Expr{Kind: api.EAdd, Line: 1, Col: 3, L: []api.Expr{
		{Kind: api.EName, Name: "a", Line: 1, Col: 1}, {Kind: api.EName, Name: "b", Line: 2, Col: 2}}})
	exprIs(t, "(\n-\n  (7 #x\n)\n)", api.Expr{Kind: api.ENegate, Line: 2, Col: 1, L: []api.Expr{
		{Kind: api.ENumber, N: 7, Line: 3, Col: 4}}})
	exprIs(t, "1-2\n-3*4", api.Expr{Kind: api.ESub, Line: 2, Col: 1, L: []api.Expr{
		{Kind: api.ESub, Line: 1, Col: 2, L: []api.Expr{
			{Kind: api.ENumber, N: 1, Line: 1, Col: 1}, {Kind: api.ENumber, N: 2, Line: 1, Col: 3}}},
		{Kind: api.EMul, Line: 2, Col: 3, L: []api.Expr{
			{Kind: api.ENumber, N: 3, Line: 2, Col: 2}, {Kind: api.ENumber, N: 4, Line: 2, Col: 4}}}}})
	for seed := range 3000 {
		from := seeded(seed)
		text, want := writtenExpr(from, from.expr(1+from.below(6)))
		exprIs(t, text, want)
	}
}

func TestExprOfWrongTexts(t *testing.T) {
	exprFails(t, " \t", api.ErrSyntax, 1, 3)
	exprFails(t, "\n\n", api.ErrSyntax, 3, 1)
	exprFails(t, "# 1", api.ErrSyntax, 1, 4)
	exprFails(t, "# 1\n", api.ErrSyntax, 2, 1)
	exprFails(t, "1 + # 2\n ", api.ErrSyntax, 2, 2)
	exprFails(t, "-", api.ErrSyntax, 1, 2)
	exprFails(t, "(1\n", api.ErrSyntax, 2, 1)
	exprFails(t, "(1,2)", api.ErrSyntax, 1, 3)
	exprFails(t, "+1", api.ErrSyntax, 1, 1)
	exprFails(t, "1+\n\n *2", api.ErrSyntax, 3, 2)
	exprFails(t, "1;", api.ErrSyntax, 1, 2)
	exprFails(t, "a b", api.ErrSyntax, 1, 3)
	exprFails(t, "a(1)", api.ErrSyntax, 1, 2)
	exprFails(t, "1(2)", api.ErrSyntax, 1, 2)
	exprFails(t, "a = 1", api.ErrSyntax, 1, 3)
	exprFails(t, "const a = 1;", api.ErrSyntax, 1, 1)
	for _, word := range strings.Fields(allWords) {
		exprFails(t, word, api.ErrSyntax, 1, 1)
		exprFails(t, "1 + "+word, api.ErrSyntax, 1, 5)
		exprFails(t, "(\n"+word+")", api.ErrSyntax, 2, 1)
		exprFails(t, "1 "+word, api.ErrSyntax, 1, 3)
	}
}
