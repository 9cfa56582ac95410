package parse_test

import (
	"slices"
	"strings"
	"testing"

	"recoup/api"
	"recoup/parse"
	"recoup/token"
	"recoup/tree"
)

// P11.4: there and back.

// thereAndBack: a tree's text, read again, is the tree.
func thereAndBack(t *testing.T, l ...api.Item) {
	t.Helper()
	text := tidyOf(t, l...)
	programIs(t, text, l...)
	tidyIs(t, text, text)
	got, _ := parse.Program(text)
	if !tree.Same(got, l) {
		t.Errorf("Program(%s) is not the same description", brief(text))
	}
}

func exprThereAndBack(t *testing.T, x api.Expr) {
	t.Helper()
	text, e := tree.ExprText(x)
	if e != api.OK {
		t.Fatalf("ExprText(%s): %v", short(x), e)
	}
	exprIs(t, text, x)
}

func shapeThereAndBack(t *testing.T, s api.Shape) {
	t.Helper()
	text, e := tree.ShapeText(s)
	if e != api.OK {
		t.Fatalf("ShapeText(%s): %v", short(s), e)
	}
	shapeIs(t, text, s)
}

func TestThereAndBack(t *testing.T) {
	thereAndBack(t)
	for seed := range 3000 {
		from := seeded(seed)
		thereAndBack(t, from.items()...)
		exprThereAndBack(t, from.expr(7))
		shapeThereAndBack(t, from.shape(4))
	}
	thereAndBack(t, slices.Repeat([]api.Item{use("x")}, api.MaxItems)...)
	thereAndBack(t, constant("a", nested(api.MaxNest)), code("x", nestedShape(api.MaxNest)))
	thereAndBack(t, code("x", sized(64, 64)), code("y", sized(64, 62)), listed(ones(64)...))
	exprThereAndBack(t, most())
	shapeThereAndBack(t, both(api.SJoin, holding(4096), holding(4093)))
}

// All small expressions.
func TestThereAndBackOfSmallExprs(t *testing.T) {
	l := []api.Expr{num(7), name("a")}
	for range 2 {
		bigger := []api.Expr{num(7), name("a")}
		for _, x := range l {
			bigger = append(bigger, neg(x))
			for _, y := range l {
				for _, kind := range pairKinds {
					bigger = append(bigger, two(kind, x, y))
				}
			}
		}
		l = bigger
	}
	for _, x := range l {
		exprThereAndBack(t, x)
	}
	// Without brackets that need not be, too.
	for _, x := range l {
		exprIs(t, exprTight(x), x)
	}
}

func TestTidyStaysTidy(t *testing.T) {
	for seed := range 1000 {
		from := seeded(seed)
		text, l := written(from, from.items()...)
		tidy, f := parse.Tidy(text)
		if f != (api.Fault{}) {
			t.Fatalf("Tidy(%s): %v", brief(text), f)
		}
		tidyIs(t, tidy, tidy)
		again, f := parse.Program(tidy)
		if !tree.Same(again, l) || f != (api.Fault{}) {
			t.Errorf("Program(%s) is not the same as of %s", brief(tidy), brief(text))
		}
	}
}

// P11.5

// parted are the tokens of a text with something between each two, ahead of
// them and behind them.
func parted(text, between string) string {
	l, _ := token.Cut(text)
	parts := []string{""}
	for _, x := range l {
		part, _ := token.Join(x)
		parts = append(parts, part)
	}
	return strings.Join(append(parts, ""), between)
}

func TestRemarksAndBlanksChangeNothing(t *testing.T) {
	for _, sample := range samples() {
		items, itemsFault := parse.Program(sample)
		x, exprFault := parse.Expr(sample)
		s, shapeFault := parse.Shape(sample)
		for _, between := range []string{" ", "\t", "\n", "   ", "\n\n", "#\n", " # use x; ! 01 \xff\n", "#\n#\n \t"} {
			text := parted(sample, between)
			got, f := parse.Program(text)
			if !alike(nowhere(got), nowhere(items)) || f.Code != itemsFault.Code {
				t.Errorf("Program(%s) = %s, %v", brief(text), short(got), f)
			}
			y, f := parse.Expr(text)
			if !alike(nowhere(y), nowhere(x)) || f.Code != exprFault.Code {
				t.Errorf("Expr(%s) = %s, %v", brief(text), short(y), f)
			}
			z, f := parse.Shape(text)
			if !alike(nowhere(z), nowhere(s)) || f.Code != shapeFault.Code {
				t.Errorf("Shape(%s) = %s, %v", brief(text), short(z), f)
			}
		}
	}
}

// Places move by what stands ahead, and by nothing else.
func TestBlanksAheadMovePlaces(t *testing.T) {
	text := "const a = 1 +\n b; use x;"
	at, _ := parse.Program(text)
	moved, _ := parse.Program("\n# x\n   " + text)
	want := []struct{ line, col int }{{3, 4}, {4, 5}}
	for i := range want {
		if moved[i].Line != want[i].line || moved[i].Col != want[i].col {
			t.Errorf("item %d stands at %d %d; want %v", i, moved[i].Line, moved[i].Col, want[i])
		}
	}
	if !tree.Same(at, moved) {
		t.Errorf("blanks ahead change more than places: %s", short(moved))
	}
	behind, _ := parse.Program(text + "\n\n # x\n")
	if !alike(at, behind) {
		t.Errorf("blanks behind change something: %s", short(behind))
	}
}

func TestOneTextBehindTheOther(t *testing.T) {
	for seed := range 2000 {
		from := seeded(seed)
		first, a := written(from, from.items()...)
		second, b := written(from, from.items()...)
		programIs(t, first+second, append(a, below(b, first)...)...)
		both := slices.Concat(nowhere(a), nowhere(b))
		programIs(t, tidyOf(t, a...)+tidyOf(t, b...), both...)
	}
}

// below are items that stand behind a text.
func below(l []api.Item, text string) []api.Item {
	line, col := token.Where(text, len(text))
	var made []api.Item
	for _, t := range l {
		t.Line, t.Col = shifted(t.Line, t.Col, line, col)
		t.Value = belowExpr(t.Value, line, col)
		t.Shape = belowShape(t.Shape, line, col)
		t.List = belowAll(t.List, line, col)
		made = append(made, t)
	}
	return made
}

func shifted(line, col, byLine, byCol int) (int, int) {
	switch line {
	case 0: // what is not there stands nowhere
		return 0, 0
	case 1:
		return byLine, col + byCol - 1
	}
	return line + byLine - 1, col
}

func belowAll(l []api.Expr, line, col int) []api.Expr {
	var made []api.Expr
	for _, x := range l {
		made = append(made, belowExpr(x, line, col))
	}
	return made
}

func belowExpr(x api.Expr, line, col int) api.Expr {
	x.Line, x.Col = shifted(x.Line, x.Col, line, col)
	x.L = belowAll(x.L, line, col)
	return x
}

func belowShape(s api.Shape, line, col int) api.Shape {
	s.Line, s.Col = shifted(s.Line, s.Col, line, col)
	s.Args = belowAll(s.Args, line, col)
	var parts []api.Shape
	for _, part := range s.Parts {
		parts = append(parts, belowShape(part, line, col))
	}
	var rows [][]api.Expr
	for _, row := range s.Rows {
		rows = append(rows, belowAll(row, line, col))
	}
	s.Parts, s.Rows = parts, rows
	return s
}

// Two that may be by themselves, but not together.
func TestOneTextTooMuchBehindTheOther(t *testing.T) {
	first, second := strings.Repeat("use x;\n", 40), strings.Repeat("place row;\n", 25)
	programFails(t, first+second, api.ErrLimit, 65, 1)
	programFails(t, second+first, api.ErrLimit, 65, 1)
	programIs(t, first+second[:len(second)-len("place row;\n")], append(slices.Repeat([]api.Item{use("x")}, 40), slices.Repeat([]api.Item{row()}, 24)...)...)
	big := tight(code("x", holding(4096))) + "\n"
	programIs(t, big, code("x", holding(4096)))
	programFails(t, big+big, api.ErrLimit, 2, 1)
}
