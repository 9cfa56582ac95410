package names_test

import (
	"fmt"
	"math"
	"slices"
	"strings"
	"testing"

	"recoup/api"
	"recoup/names"
	"recoup/number"
)

// P13.1

func TestTableOfExamples(t *testing.T) {
	tableOf(t, "const a = 2; const b = a * a; code x = reed(b, a); use x;", constSymbol("a", 0, 2), constSymbol("b", 1, 4), codeSymbol("x", 2))
	textFails(t, "const a = a;", api.ErrName, 1, 11)
	textFails(t, "code x = y;", api.ErrName, 1, 10)
	textFails(t, "use x;", api.ErrName, 1, 1)
	textFails(t, "const a = 1; use a;", api.ErrKind, 1, 14)
	textFails(t, "code x = reed(1, 1); const b = x;", api.ErrKind, 1, 32)
	textFails(t, "const a = 1; const a = 1 / 0;", api.ErrZero, 1, 26)
	textFails(t, "const a = 1; const a = 2;", api.ErrTwice, 1, 14)
	tableOf(t, "")
	tableIs(t, nil)
	tableIs(t, []api.Item{})
}

// Of one item of each kind: what makes something has a symbol, all else none.
func TestTableOfOneItem(t *testing.T) {
	tableOf(t, "const a = 7;", constSymbol("a", 0, 7))
	tableOf(t, "const abcdefghijklmnop = 0;", constSymbol("abcdefghijklmnop", 0, 0))
	tableOf(t, "const a = - 2147483647;", constSymbol("a", 0, -api.MaxNumber))
	for _, shape := range []string{"reed(4, 2)", "cross(4, 2)", "local(4, 2, 1)", "pyramid(4, 2, 1)", "product(reed(1, 1), cross(1, 1))", "join(reed(1, 1), matrix [1])", "matrix [1, 0; 0, 1]", "reed(1 / 0, 1)"} {
		tableOf(t, "code x = "+shape+";", codeSymbol("x", 0))
	}
	for _, text := range []string{"domains 3;", "tolerate 1 / 0;", "place row;", "place spread;", "place spiral 2147483647 + 1;", "place list [0, 1 / 0];"} {
		tableOf(t, text)
	}
}

// The places are those of the items, not of the symbols.
func TestItemsOfSymbols(t *testing.T) {
	tableOf(t, "domains 1; const a = 3; place row; place spread; code x = reed(a, a); use x; use x; const b = - a; tolerate b; code y = x;",
		constSymbol("a", 1, 3), codeSymbol("x", 4), constSymbol("b", 7, -3), codeSymbol("y", 9))
	l := slices.Repeat([]api.Item{placeRow()}, api.MaxItems)
	tableIs(t, l)
	for i := range l {
		made := slices.Clone(l)
		made[i] = constant("a", num(i))
		tableIs(t, made, constSymbol("a", i, i))
		made[i] = code("a", reed())
		tableIs(t, made, codeSymbol("a", i))
	}
}

func TestConstantsThatLeanOnOthers(t *testing.T) {
	tableOf(t, "const a = 2; const b = a + 1; const c = a * b; const d = c * c - b; const e = - d / a; const f = e % b; const g = (a + b) * (c - d) - - (e * f);",
		constSymbol("a", 0, 2), constSymbol("b", 1, 3), constSymbol("c", 2, 6), constSymbol("d", 3, 33), constSymbol("e", 4, -16), constSymbol("f", 5, -1), constSymbol("g", 6, -119))
	tableOf(t, "const a = 2147483647; const b = - a; const c = a + b; const d = c * a; const e = b / - 1;",
		constSymbol("a", 0, api.MaxNumber), constSymbol("b", 1, -api.MaxNumber), constSymbol("c", 2, 0), constSymbol("d", 3, 0), constSymbol("e", 4, api.MaxNumber))
	tableOf(t, "const z = 5; const y = z; const x = y; const w = x;",
		constSymbol("z", 0, 5), constSymbol("y", 1, 5), constSymbol("x", 2, 5), constSymbol("w", 3, 5))
	// Names that begin alike are others.
	tableOf(t, "const a = 1; const aa = a + 1; const a1 = aa + 1; const a10 = a1 + aa + a;",
		constSymbol("a", 0, 1), constSymbol("aa", 1, 2), constSymbol("a1", 2, 3), constSymbol("a10", 3, 6))
	textFails(t, "const aa = 1; const b = a;", api.ErrName, 1, 25)
	textFails(t, "const a = 1; const b = aa;", api.ErrName, 1, 24)
}

func TestAsManyConstantsAsMayBe(t *testing.T) {
	l, want := []api.Item{constant("n0", num(1))}, []api.Symbol{constSymbol("n0", 0, 1)}
	for i := 1; i < api.MaxItems; i++ {
		ahead, text := fmt.Sprint("n", i-1), fmt.Sprint("n", i)
		l = append(l, constant(text, two(api.EAdd, name(ahead), num(i))))
		want = append(want, constSymbol(text, i, want[i-1].N+i))
		tableIs(t, l, want...)
	}
	tableFails(t, "65 items", fault(api.ErrArg, 0, 0), append(l, constant("n64", num(1)))...)
	tableFails(t, "65 items, the first one wrong", fault(api.ErrArg, 0, 0), append([]api.Item{use("x")}, l...)...)
}

// patterns are items: ? stands for a name that asks for a constant, ! for one
// that asks for a code. They stand in the order of the text.
var patterns = []string{
	"const q = ?;", "const q = - ?;", "const q = ? + ?;", "const q = (? - ?) * (3 % - ?) / ?;", "const q = 1 - (2 - (3 - ?)) - ?;",
	"code q = !;", "code q = reed(?, ?);", "code q = cross(1, ?);", "code q = local(?, 2 * ?, ?);", "code q = pyramid(? + ?, - ?, 1);",
	"code q = product(!, !);", "code q = join(!, reed(1, ?));", "code q = join(reed(?, 1), !);", "code q = matrix [?];", "code q = matrix [?, 1, ?; ?; 2, - ?];",
	"code q = product(join(!, product(reed(?, ?), !)), join(matrix [?; ?, ?], product(!, local(?, ?, ?))));",
	"code q = join(join(join(!, !), join(!, !)), join(join(cross(?, ?), !), !));",
	"use !;", "domains ?;", "domains ? * (? + 1);", "tolerate ?;", "tolerate - ? - ?;",
	"place spiral ?;", "place spiral ? % 3 + ?;", "place list [?];", "place list [?, 2, ? + ?, - ?];",
}

// filled is a pattern with names in it, and the column of each.
func filled(pattern string, fill func(slot int, asks api.SymbolKind) string) (string, []int) {
	var text strings.Builder
	var cols []int
	for _, part := range pattern {
		switch part {
		case '?', '!':
			asks := api.KConst
			if part == '!' {
				asks = api.KCode
			}
			cols = append(cols, text.Len()+1)
			text.WriteString(fill(len(cols)-1, asks))
		default:
			text.WriteRune(part)
		}
	}
	if strings.HasPrefix(pattern, "use") {
		cols[0] = 1
	}
	return text.String(), cols
}

const ahead = "const aa = 2; code xxx = reed(1, 1);\n"

func right(asks api.SymbolKind) string {
	if asks == api.KConst {
		return "aa"
	}
	return "xxx"
}

func other(asks api.SymbolKind) string {
	return right(api.KConst + api.KCode - asks)
}

func TestItemsWhoseNamesAreRight(t *testing.T) {
	for _, pattern := range patterns {
		text, _ := filled(pattern, func(_ int, asks api.SymbolKind) string { return right(asks) })
		want := []api.Symbol{constSymbol("aa", 0, 2), codeSymbol("xxx", 1)}
		switch last := read(t, ahead+text)[2]; last.Kind {
		case api.IConst:
			n, _ := number.Eval(last.Value, api.Const{Name: "aa", N: 2})
			want = append(want, constSymbol("q", 2, n))
		case api.ICode:
			want = append(want, codeSymbol("q", 2))
		}
		tableOf(t, ahead+text, want...)
	}
}

// Each name of each item is looked for, as the kind that it asks for, from the
// left; none, with a wrong one ahead of it.
func TestEachNameThatIsWrong(t *testing.T) {
	for _, pattern := range patterns {
		_, cols := filled(pattern, func(int, api.SymbolKind) string { return "" })
		for first := range cols {
			for second := range cols {
				for _, kinds := range [][2]api.Errno{{api.ErrName, api.ErrName}, {api.ErrName, api.ErrKind}, {api.ErrKind, api.ErrName}, {api.ErrKind, api.ErrKind}} {
					wrong := map[int]api.Errno{second: kinds[1], first: kinds[0]}
					text, cols := filled(pattern, func(slot int, asks api.SymbolKind) string {
						switch wrong[slot] {
						case api.ErrName:
							return "zz"
						case api.ErrKind:
							return other(asks)
						}
						return right(asks)
					})
					left := min(first, second)
					textFails(t, ahead+text, wrong[left], 2, cols[left])
				}
			}
		}
	}
}

// The name that an item makes is none of those ahead of it.
func TestItemsThatUseWhatTheyMake(t *testing.T) {
	for _, pattern := range patterns {
		if !strings.Contains(pattern, "q") {
			continue
		}
		text, cols := filled(pattern, func(_ int, asks api.SymbolKind) string { return right(asks) })
		textFails(t, ahead+text+"\n "+text, api.ErrTwice, 3, 2)
		for wrong := range cols {
			text, cols := filled(pattern, func(slot int, asks api.SymbolKind) string {
				if slot == wrong {
					return "q"
				}
				return right(asks)
			})
			textFails(t, ahead+text, api.ErrName, 2, cols[wrong])
		}
	}
	textFails(t, "const a = 1 + a;", api.ErrName, 1, 15)
	textFails(t, "code x = join(reed(1, 1), x);", api.ErrName, 1, 27)
	textFails(t, "code x = reed(1, x);", api.ErrName, 1, 18)
	textFails(t, "const a = 1; const a = a;", api.ErrTwice, 1, 14)
	textFails(t, "code x = reed(1, 1); code x = x;", api.ErrTwice, 1, 22)
	textFails(t, "const a = 1; code a = a;", api.ErrKind, 1, 23)
	textFails(t, "code x = reed(1, 1); const x = x;", api.ErrKind, 1, 32)
}

func TestNamesThatAreMadeBehindTheirUse(t *testing.T) {
	textFails(t, "const a = b; const b = 1;", api.ErrName, 1, 11)
	textFails(t, "use x; code x = reed(1, 1);", api.ErrName, 1, 1)
	textFails(t, "code y = x; code x = reed(1, 1);", api.ErrName, 1, 10)
	textFails(t, "code y = reed(a, 1); const a = 1;", api.ErrName, 1, 15)
	textFails(t, "domains a; const a = 1;", api.ErrName, 1, 9)
	textFails(t, "place list [1, a];\nconst a = 1;", api.ErrName, 1, 16)
	// Whatever they are made as.
	textFails(t, "use x; const x = 1;", api.ErrName, 1, 1)
	textFails(t, "tolerate x; code x = reed(1, 1);", api.ErrName, 1, 10)
	for _, pattern := range patterns {
		text, cols := filled(pattern, func(_ int, asks api.SymbolKind) string { return right(asks) })
		textFails(t, text+ahead, api.ErrName, 1, cols[0])
	}
}

func TestNamesThatAreMadeTwice(t *testing.T) {
	made := []string{"const a = 1;", "const a = 2;", "code a = reed(1, 1);", "code a = matrix [2];"}
	for _, first := range made {
		for _, second := range made {
			textFails(t, first+"\n"+second, api.ErrTwice, 2, 1)
			textFails(t, "const b = 1;"+first+"\n  "+second, api.ErrTwice, 2, 3)
			textFails(t, first+"domains 1; code b = reed(1, 1); const c = 3; place row;\n\n "+second+"use b;", api.ErrTwice, 3, 2)
		}
	}
	textFails(t, "const a = 1;\nconst a = 1;\nconst a = 1;", api.ErrTwice, 2, 1)
}

func TestKindsThatAreOther(t *testing.T) {
	textFails(t, "const a = 1; code x = a;", api.ErrKind, 1, 23)
	textFails(t, "const a = 1; code x = join(reed(a, a), a);", api.ErrKind, 1, 40)
	textFails(t, "code x = reed(1, 1); code y = reed(1, x);", api.ErrKind, 1, 39)
	textFails(t, "code x = reed(1, 1); domains x;", api.ErrKind, 1, 30)
	textFails(t, "code x = reed(1, 1); tolerate 1 + x;", api.ErrKind, 1, 35)
	textFails(t, "code x = reed(1, 1); place spiral x;", api.ErrKind, 1, 35)
	textFails(t, "code x = reed(1, 1); place list [1, x];", api.ErrKind, 1, 37)
	textFails(t, "const a = 1;\n\n   use a;", api.ErrKind, 3, 4)
}

// Only a constant's Value is worked out, behind its names.
func TestFaultsOfValues(t *testing.T) {
	for text, want := range map[string]api.Fault{
		"const a = 1 / 0;": fault(api.ErrZero, 1, 13),
		"const a = 1;\nconst b = (2 -\n1) % (a - 1);":       fault(api.ErrZero, 3, 4),
		"const a = 0; const b = 5 / a;":                     fault(api.ErrZero, 1, 26),
		"const a = 2147483647 + 1;":                         fault(api.ErrOver, 1, 22),
		"const a = 2147483647;\n const b = 1 - - a;":        fault(api.ErrOver, 2, 14),
		"const a = 65536; const b = a * a;":                 fault(api.ErrOver, 1, 30),
		"const a = 2147483647; const b = 0 - a - 1;":        fault(api.ErrOver, 1, 39),
		"const a = 1 / 0 + 2147483647 * 2;":                 fault(api.ErrZero, 1, 13),
		"const a = 2147483647 * 2 + 1 / 0;":                 fault(api.ErrOver, 1, 22),
		"const a = 1; const b = a - 1; const c = a % b;":    fault(api.ErrZero, 1, 43),
		"const a = 0 * (1 / 0);":                            fault(api.ErrZero, 1, 18),
		"code x = reed(1 / 0, 1); const a = 1 / 0;":         fault(api.ErrZero, 1, 38),
		"domains 1 / 0; tolerate 1 % 0; const a = 3 % 0;":   fault(api.ErrZero, 1, 44),
		"place spiral 1 / 0; place list [1 / 0]; use nono;": fault(api.ErrName, 1, 41),
	} {
		textFails(t, text, want.Code, want.Line, want.Col)
	}
}

// In one item: its names, then its Value, then what it makes.
func TestWhichFaultOfOneItem(t *testing.T) {
	textFails(t, "const a = 1 / 0 + b;", api.ErrName, 1, 19)
	textFails(t, "const a = 2147483647 + 1 - b;", api.ErrName, 1, 28)
	textFails(t, "code x = reed(1, 1); const a = 1 / 0 + x;", api.ErrKind, 1, 40)
	textFails(t, "code x = reed(1, 1); const a = (1 % 0) * (b - x);", api.ErrName, 1, 43)
	textFails(t, "code x = reed(1, 1); const a = (1 % 0) * (x - b);", api.ErrKind, 1, 43)
	textFails(t, "const a = 1; const a = b;", api.ErrName, 1, 24)
	textFails(t, "const a = 1; const a = 1 / 0 * b;", api.ErrName, 1, 32)
	textFails(t, "const a = 1; const a = 2147483647 + a;", api.ErrOver, 1, 35)
	textFails(t, "const a = 1; const a = a % 0;", api.ErrZero, 1, 26)
	textFails(t, "const a = 1; code a = reed(b, 1);", api.ErrName, 1, 28)
	textFails(t, "const a = 1; code a = join(reed(1, 1), a);", api.ErrKind, 1, 40)
	textFails(t, "code x = reed(1, 1); code x = product(x, y);", api.ErrName, 1, 42)
	textFails(t, "code x = reed(1, 1); code x = matrix [1, x];", api.ErrKind, 1, 42)
}

// Of two items the first one that is wrong is told, whatever its fault.
func TestWhichFaultOfTwoItems(t *testing.T) {
	wrong := map[string]struct {
		e   api.Errno
		col int
	}{
		"const q = nn;":              {api.ErrName, 11},
		"use nn;":                    {api.ErrName, 1},
		"code q = reed(1, nn);":      {api.ErrName, 18},
		"const q = xxx;":             {api.ErrKind, 11},
		"use aa;":                    {api.ErrKind, 1},
		"place list [1, xxx];":       {api.ErrKind, 16},
		"const q = 1 / 0;":           {api.ErrZero, 13},
		"const q = 2147483647 + 1;":  {api.ErrOver, 22},
		"const aa = 3;":              {api.ErrTwice, 1},
		"code aa = xxx;":             {api.ErrTwice, 1},
		"const xxx = aa;":            {api.ErrTwice, 1},
		"code xxx = join(xxx, xxx);": {api.ErrTwice, 1},
	}
	for first, want := range wrong {
		for second := range wrong {
			textFails(t, ahead+first+second, want.e, 2, want.col)
			textFails(t, ahead+first+"\n"+second+"place row;", want.e, 2, want.col)
			textFails(t, ahead+"place row;\n"+first+"domains 3;\n"+second, want.e, 3, want.col)
		}
	}
}

// A part's place is told as it is, whatever it is.
func TestFaultsTellPlacesAsTheyAre(t *testing.T) {
	for _, place := range [][2]int{{0, 0}, {0, 3}, {3, 0}, {-1, -2}, {math.MaxInt, math.MinInt}, {70000, 1}} {
		line, col := place[0], place[1]
		first := []api.Item{atItem(constant("a", at(num(1), 5, 5)), 6, 6), atItem(code("x", atShape(reed(), 7, 7)), 8, 8)}
		for _, c := range []struct {
			wrong api.Item
			e     api.Errno
		}{
			{atItem(constant("b", at(name("c"), line, col)), 9, 9), api.ErrName},
			{atItem(domains(at(two(api.EAdd, at(num(1), 9, 9), at(name("x"), line, col)), 9, 9)), 9, 9), api.ErrKind},
			{atItem(code("y", atShape(shaped("z"), line, col)), 9, 9), api.ErrName},
			{atItem(code("y", atShape(both(api.SJoin, atShape(shaped("x"), 9, 9), atShape(shaped("a"), line, col)), 9, 9)), 9, 9), api.ErrKind},
			{atItem(use("z"), line, col), api.ErrName},
			{atItem(use("a"), line, col), api.ErrKind},
			{atItem(constant("a", at(name("a"), 9, 9)), line, col), api.ErrTwice},
			{atItem(code("a", atShape(shaped("x"), 9, 9)), line, col), api.ErrTwice},
			{atItem(constant("b", at(two(api.EDiv, at(num(1), 9, 9), at(num(0), 9, 9)), line, col)), 9, 9), api.ErrZero},
		} {
			tableFails(t, short(c.wrong), fault(c.e, line, col), append(slices.Clone(first), c.wrong)...)
		}
		tableIs(t, append(first, atItem(use("x"), line, col)), constSymbol("a", 0, 1), codeSymbol("x", 1))
	}
}

func TestNamesDeepInside(t *testing.T) {
	first := []api.Item{constant("a", num(1)), code("x", reed())}
	made := []api.Symbol{constSymbol("a", 0, 1), codeSymbol("x", 1)}
	for deep := 1; deep <= api.MaxNest; deep++ {
		for text, e := range map[string]api.Errno{"a": api.OK, "x": api.ErrKind, "b": api.ErrName} {
			l := append(slices.Clone(first), tolerate(nested(deep, at(name(text), 7, 8))))
			if e == api.OK {
				tableIs(t, l, made...)
			} else {
				tableFails(t, "an expression", fault(e, 7, 8), l...)
			}
		}
		for text, e := range map[string]api.Errno{"x": api.OK, "a": api.ErrKind, "b": api.ErrName} {
			l := append(slices.Clone(first), code("y", nestedShape(deep, atShape(shaped(text), 7, 8))))
			if e == api.OK {
				tableIs(t, l, append(slices.Clone(made), codeSymbol("y", 2))...)
			} else {
				tableFails(t, "a shape", fault(e, 7, 8), l...)
			}
		}
	}
	deepest := code("y", nestedShape(api.MaxNest, of(api.SReed, num(1), nested(api.MaxNest, at(name("b"), 7, 8)))))
	tableFails(t, "both", fault(api.ErrName, 7, 8), append(first, deepest)...)
}

// grid is a matrix of so many rows and columns, each name in it a place of its
// own.
func grid(height, width int, text string) api.Shape {
	made := rows()
	for i := range height {
		var row []api.Expr
		for j := range width {
			row = append(row, at(name(text), i+1, j+1))
		}
		made.Rows = append(made.Rows, row)
	}
	return made
}

func TestAsManyPartsAsMayBe(t *testing.T) {
	l := []api.Item{constant("a", num(1)), code("x", grid(64, 64, "a")), code("y", grid(63, 64, "a"))}
	parts := 2 + (2 + 64*64) + (2 + 63*64)
	for range 50 {
		l = append(l, placeRow())
		parts++
	}
	// The last item takes what is left: one part by itself, one each for the
	// name and what negates it.
	last := name("a")
	for range api.MaxNodes - parts - 2 {
		last = neg(last)
	}
	l = append(l, domains(last))
	want := []api.Symbol{constSymbol("a", 0, 1), codeSymbol("x", 1), codeSymbol("y", 2)}
	tableIs(t, l, want...)
	more := slices.Clone(l)
	more[len(l)-1].Value = neg(last)
	tableFails(t, "one part too many", fault(api.ErrArg, 0, 0), more...)
	l[2].Shape.Rows[62][63].Name = "b"
	tableFails(t, "the last name", fault(api.ErrName, 63, 64), l...)
	l[1].Shape.Rows[40][7].Name = "x"
	tableFails(t, "a name in the middle", fault(api.ErrName, 41, 8), l...)
	tableFails(t, "one part too many, with faults", fault(api.ErrArg, 0, 0), more...)
	tableFails(t, "very many names", fault(api.ErrName, 3, 4), tolerate(full(13, at(name("a"), 3, 4))))
}

func TestDescriptionsThatMayNotBe(t *testing.T) {
	for what, wrong := range wrongItems() {
		wrong = atItem(wrong, 3, 4)
		none := fault(api.ErrArg, 0, 0)
		tableFails(t, what, none, wrong)
		tableFails(t, what+" behind a right one", none, constant("a", num(1)), wrong)
		tableFails(t, what+" ahead of a right one", none, wrong, constant("a", num(1)))
		// It is told ahead of all other faults, wherever they stand.
		tableFails(t, what+" behind a fault", none, use("nono"), wrong)
		tableFails(t, what+" ahead of a fault", none, wrong, atItem(use("nono"), 1, 1))
		tableFails(t, what+" behind a value's fault", none, constant("a", two(api.EDiv, num(1), num(0))), wrong)
		tableFails(t, what+" behind a name twice", none, constant("a", num(1)), constant("a", num(1)), wrong)
	}
	tableFails(t, "very many items", fault(api.ErrArg, 0, 0), make([]api.Item, 1<<16)...)
	tableFails(t, "65 right items", fault(api.ErrArg, 0, 0), slices.Repeat([]api.Item{placeRow()}, api.MaxItems+1)...)
	tableIs(t, slices.Repeat([]api.Item{placeRow()}, api.MaxItems))
}

func TestTableOfAnyTexts(t *testing.T) {
	const all = 30000
	met := map[api.Errno]int{}
	for seed := range all {
		text := anyText(seed, []int{3, 10, 40}[seed%3])
		want, wf := slowTable(t, text)
		if got, f := names.Table(read(t, text)...); !slices.Equal(got, want) || f != wf {
			t.Fatalf("Table(%s) = %v, %v; want %v, %v", text, got, f, want, wf)
		}
		if len(want) > 2 || wf != (api.Fault{}) {
			met[wf.Code]++
		}
	}
	for _, e := range []api.Errno{api.OK, api.ErrName, api.ErrKind, api.ErrZero, api.ErrOver, api.ErrTwice} {
		if met[e] < all/200 {
			t.Errorf("%v is met %d times alone", e, met[e])
		}
	}
}
