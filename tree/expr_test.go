package tree_test

import (
	"fmt"
	"math"
	"strings"
	"testing"

	"recoup/api"
	"recoup/tree"
)

// P10.1, P10.3: expressions.

func TestExprOfExamples(t *testing.T) {
	exprIs(t, two(api.EAdd, num(1), two(api.EMul, name("a"), num(2))), "( 1 + ( a * 2 ) )", 3)
	exprIs(t, neg(num(5)), "- 5", 2)
	exprIsNot(t, "a number with a name", api.Expr{Kind: api.ENumber, Name: "a"})
	exprIsNot(t, "a name use", name("use"))
}

func TestExprOfEachKind(t *testing.T) {
	exprIs(t, num(7), "7", 1)
	exprIs(t, name("a1"), "a1", 1)
	exprIs(t, neg(name("a")), "- a", 2)
	exprIs(t, neg(neg(num(0))), "- - 0", 3)
	exprIs(t, two(api.EAdd, num(1), num(2)), "( 1 + 2 )", 2)
	exprIs(t, two(api.ESub, num(1), num(2)), "( 1 - 2 )", 2)
	exprIs(t, two(api.EMul, num(1), num(2)), "( 1 * 2 )", 2)
	exprIs(t, two(api.EDiv, num(1), num(0)), "( 1 / 0 )", 2)
	exprIs(t, two(api.ERest, num(1), num(2)), "( 1 % 2 )", 2)
	exprIs(t, two(api.ESub, neg(num(1)), neg(two(api.EDiv, name("x"), num(2)))), "( - 1 - - ( x / 2 ) )", 4)
	exprIs(t, two(api.ESub, two(api.ESub, num(1), num(2)), num(3)), "( ( 1 - 2 ) - 3 )", 3)
	exprIs(t, two(api.ESub, num(1), two(api.ESub, num(2), num(3))), "( 1 - ( 2 - 3 ) )", 3)
}

func TestNumbers(t *testing.T) {
	exprIs(t, num(0), "0", 1)
	exprIs(t, num(10), "10", 1)
	exprIs(t, num(api.MaxNumber-1), "2147483646", 1)
	exprIs(t, num(api.MaxNumber), "2147483647", 1)
	for _, n := range []int{-1, -10, api.MaxNumber + 1, math.MaxInt, math.MinInt, math.MinInt32, 1 << 32, 1<<32 + 5} {
		exprIsNot(t, fmt.Sprint("the number ", n), num(n))
		exprIsNot(t, fmt.Sprint("the negated number ", n), neg(num(n)))
	}
}

func badNames() []string {
	return append(strings.Fields(allWords), "", "A", "1", "1a", "a_b", "a b", " a", "a ", "-", "(", "ä", "a\n", "a\x00", "abcdefghijklmnopq", strings.Repeat("a", api.MaxText))
}

func TestNamesOfExprs(t *testing.T) {
	for _, text := range []string{"a", "z", "a0", "z9", "uses", "us", "abcdefghijklmnop", "a123456789012345"} {
		exprIs(t, name(text), text, 1)
	}
	for _, text := range badNames() {
		exprIsNot(t, "the name "+short(text), name(text))
		exprIsNot(t, "a sum with the name "+short(text), two(api.EAdd, num(1), name(text)))
	}
}

func TestKindsThatAreNone(t *testing.T) {
	exprIsNot(t, "no kind", api.Expr{})
	for kind := range 256 {
		if kind >= int(api.ENumber) && kind <= int(api.ERest) {
			continue
		}
		what := fmt.Sprint("the kind ", kind)
		for _, l := range [][]api.Expr{nil, {num(1)}, {num(1), num(2)}} {
			exprIsNot(t, what, api.Expr{Kind: api.ExprKind(kind), L: l})
		}
		exprIsNot(t, what, api.Expr{Kind: api.ExprKind(kind), N: 1})
		exprIsNot(t, what, api.Expr{Kind: api.ExprKind(kind), Name: "a"})
		exprIsNot(t, what, neg(api.Expr{Kind: api.ExprKind(kind)}))
	}
}

func TestExprsWithFieldsTooMany(t *testing.T) {
	with := []any{1, -1, api.MaxNumber, "a", "use", " ", []api.Expr{num(1)}, []api.Expr{num(1), num(2)}, make([]api.Expr, 1)}
	for _, x := range exprs() {
		l := crowded(x, exprFields[x.Kind], with)
		if len(l) != 6 {
			t.Fatalf("%d fields too many of %s", len(l), short(x))
		}
		for _, made := range l {
			exprIsNot(t, short(made), made.(api.Expr))
			exprIsNot(t, "a negated "+short(made), neg(made.(api.Expr)))
		}
	}
}

func TestExprsWithFieldsTooFew(t *testing.T) {
	exprIsNot(t, "a name without one", api.Expr{Kind: api.EName})
	for kind := api.ENegate; kind <= api.ERest; kind++ {
		for count := range 5 {
			x := api.Expr{Kind: kind}
			for range count {
				x.L = append(x.L, num(1))
			}
			if count == strings.Count(exprTexts[kind], "%s") {
				exprIs(t, x, slowExpr(x, 2).text, 2)
			} else {
				exprIsNot(t, short(x), x)
			}
		}
		exprIsNot(t, "very many parts", api.Expr{Kind: kind, L: make([]api.Expr, 1<<16)})
	}
}

// A list without elements is as one that is not there.
func TestExprsWithEmptyLists(t *testing.T) {
	exprIs(t, api.Expr{Kind: api.ENumber, N: 3, L: []api.Expr{}}, "3", 1)
	exprIs(t, api.Expr{Kind: api.EName, Name: "a", L: make([]api.Expr, 0, 5)}, "a", 1)
	exprIsNot(t, "a negated nothing", api.Expr{Kind: api.ENegate, L: []api.Expr{}})
}

// What is wrong is found in each part, at each depth.
func TestExprsWithPartsThatMayNotBe(t *testing.T) {
	for _, bad := range []api.Expr{{}, num(-1), name("use"), neg(api.Expr{}), {Kind: api.ENumber, Name: "a"}, {Kind: api.EAdd, L: []api.Expr{num(1)}}} {
		exprIsNot(t, "a negated "+short(bad), neg(bad))
		for kind := api.EAdd; kind <= api.ERest; kind++ {
			exprIsNot(t, short(bad)+" and 1", two(kind, bad, num(1)))
			exprIsNot(t, "1 and "+short(bad), two(kind, num(1), bad))
			exprIsNot(t, "1 and 2 and "+short(bad), two(kind, two(kind, num(1), num(2)), neg(two(kind, num(3), bad))))
		}
	}
}

// Where an expression and its parts stand is of no moment.
func TestExprsDoNotAskForTheirPlace(t *testing.T) {
	for i, x := range exprs() {
		f := wholeExpr(x)
		exprIs(t, placed(x, i), f.text, f.deep)
	}
	for _, at := range []int{1, -1, math.MaxInt, math.MinInt} {
		exprIs(t, api.Expr{Kind: api.ENumber, N: 3, Line: at, Col: -at}, "3", 1)
	}
}

func TestExprsAsDeepAsMayBe(t *testing.T) {
	for deep := 1; deep <= api.MaxNest; deep++ {
		x := nested(deep)
		exprIs(t, x, wholeExpr(x).text, deep)
	}
	exprIsNot(t, "one too deep", nested(api.MaxNest+1))
	exprIsNot(t, "one far too deep", nested(1<<14))
	deepest := nested(api.MaxNest)
	exprIsNot(t, "one too deep at the left", two(api.EMul, deepest, num(1)))
	exprIsNot(t, "one too deep at the right", two(api.EMul, num(1), deepest))
	exprIsNot(t, "a negated one too deep", neg(deepest))
	exprIs(t, two(api.EMul, nested(15), num(1)), "( "+wholeExpr(nested(15)).text+" * 1 )", 16)
	exprIs(t, two(api.EMul, num(1), nested(15)), "( 1 * "+wholeExpr(nested(15)).text+" )", 16)
}

func TestExprsOfAsMuchAsMayBe(t *testing.T) {
	most := full(13, num(1)) // 8191
	exprIs(t, most, wholeExpr(most).text, 13)
	exprIs(t, neg(most), "- "+wholeExpr(most).text, 14)
	exprIsNot(t, "one too many", neg(neg(most)))
	exprIsNot(t, "two too many", two(api.EAdd, most, num(1)))
	exprIsNot(t, "two too many", two(api.EAdd, num(1), most))
	exprIsNot(t, "as many as can be 14 deep", full(14, num(1)))
	exprIsNot(t, "as many as can be 16 deep", full(16, num(1)))
	// All of them as few and as many in other shapes.
	ends := make([]api.Expr, 4096)
	for i := range ends {
		ends[i] = num(i)
	}
	ends[4095] = neg(num(1))
	exprIs(t, full(13, ends...), wholeExpr(full(13, ends...)).text, 14)
	ends[0] = neg(num(1))
	exprIsNot(t, "one too many in the first part", full(13, ends...))
	ends[0], ends[17] = num(1), neg(num(1))
	exprIsNot(t, "one too many in the middle", full(13, ends...))
}

func TestExprsThatStandWithinThemselves(t *testing.T) {
	l := make([]api.Expr, 1)
	l[0] = neg(num(1))
	l[0].L = l
	exprIsNot(t, "a negation of itself", l[0])
	exprIsNot(t, "a negation of it", neg(l[0]))
	for kind := api.EAdd; kind <= api.ERest; kind++ {
		both := make([]api.Expr, 2)
		both[0] = api.Expr{Kind: kind, L: both}
		both[1] = api.Expr{Kind: kind, L: both}
		exprIsNot(t, "two of itself", both[0])
		both[1] = num(1)
		exprIsNot(t, "itself at the left", both[0])
		both[0], both[1] = both[1], both[0]
		exprIsNot(t, "itself at the right", both[1])
	}
	first, second := make([]api.Expr, 1), make([]api.Expr, 2)
	first[0] = api.Expr{Kind: api.EAdd, L: second}
	second[0], second[1] = num(1), api.Expr{Kind: api.ENegate, L: first}
	exprIsNot(t, "one within another within it", first[0])
}

// One list may stand in several places, as long as it ends.
func TestExprsWithListsTwice(t *testing.T) {
	x := two(api.EAdd, num(1), name("a"))
	for range 3 {
		x = two(api.EMul, x, x)
	}
	exprIs(t, x, wholeExpr(x).text, 5)
	x = num(1)
	for range 12 {
		l := []api.Expr{x, x}
		x = api.Expr{Kind: api.EAdd, L: l}
	}
	exprIs(t, x, wholeExpr(full(13, num(1))).text, 13)
	for range 3 {
		l := []api.Expr{x, x}
		x = api.Expr{Kind: api.EAdd, L: l}
		exprIsNot(t, "one list far too often", x)
	}
}

// 4095 sums have seven bytes each beside their parts.
func TestExprTextsOfAsMuchAsMayBe(t *testing.T) {
	room := api.MaxText - 7*4095
	exprIs(t, full(13, long(4096, room)...), wholeExpr(full(13, long(4096, room)...)).text, 13)
	exprIs(t, neg(full(13, long(4096, room-2)...)), "- "+wholeExpr(full(13, long(4096, room-2)...)).text, 14)
	for _, x := range []api.Expr{full(13, long(4096, room+1)...), neg(full(13, long(4096, room-1)...)), neg(full(13, long(4096, room)...)), full(13, long(4096, 16*4096)...)} {
		if got, e := tree.ExprText(x); got != "" || e != api.ErrLimit {
			t.Errorf("ExprText of too much = %s, %v; want ErrLimit", short(got), e)
		}
		if !tree.MayExpr(x) || tree.Deep(x) == 0 {
			t.Error("an expression may be though its text is too long")
		}
	}
}

// What may not be is told ahead of a text that is too long.
func TestExprTextOfTwoErrors(t *testing.T) {
	for _, place := range []int{0, 1, 2000, 4094, 4095} {
		for _, bad := range []api.Expr{{}, name("use"), num(-1), name(strings.Repeat("a", 17)), neg(neg(num(1)))} {
			ends := long(4096, 16*4096)
			ends[place] = bad
			exprIsNot(t, "too much, with "+short(bad), full(13, ends...))
		}
	}
	exprIsNot(t, "too much and too deep", two(api.EAdd, full(12, long(2048, 16*2048)...), nested(16)))
}
