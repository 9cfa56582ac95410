package elab_test

import (
	"fmt"
	"strings"
	"testing"

	"recoup/api"
	"recoup/elab"
)

// P17.4: the layout of a text, or its fault.

func fromIs(t *testing.T, text string, want api.Layout) {
	t.Helper()
	got, f := elab.From(text)
	if shown(got) != shown(want) || f != (api.Fault{}) {
		t.Errorf("From(%s) = %s, %v; want %s", short(text), short(shown(got)), f, short(shown(want)))
	}
	if !elab.May(got) {
		t.Errorf("what From(%s) answers may not be", short(text))
	}
}

// fromFails: beside the fault there is nothing.
func fromFails(t *testing.T, text string, want api.Fault) {
	t.Helper()
	if got, f := elab.From(text); shown(got) != shown(api.Layout{}) || f != want {
		t.Errorf("From(%s) = %s, %v; want %v", short(text), short(shown(got)), f, want)
	}
}

// markFails: the fault stands where the mark does.
func markFails(t *testing.T, text string, e api.Errno) {
	t.Helper()
	ahead, behind, found := strings.Cut(text, "@")
	if !found || strings.Contains(behind, "@") {
		t.Fatalf("not one mark in %s", text)
	}
	line, col := strings.Count(ahead, "\n")+1, len(ahead)-strings.LastIndex(ahead, "\n")
	fromFails(t, ahead+behind, api.Fault{Code: e, Line: line, Col: col})
}

func TestFromKnown(t *testing.T) {
	fromIs(t, "code x = reed(1, 1); use x;", api.Layout{Code: code(of(1, 1, 1)), Homes: []int{0, 1}, Domains: 2})
	fromIs(t, "code x = local(2, 1, 1); use x; domains 2; place spread; tolerate 1;",
		api.Layout{Code: code(of(2, 1, 0, 0, 1, 1, 1, 142, 244), set(0, 1, 2)), Homes: []int{0, 0, 1, 1}, Domains: 2, Tolerate: 1})
	fromIs(t, "code x = local(4, 2, 0); use x;", api.Layout{
		Code:  code(of(4, 1, 0, 0, 0, 0, 1, 0, 0, 0, 0, 1, 0, 0, 0, 0, 1, 1, 1, 0, 0, 0, 0, 1, 1), set(0, 1, 4), set(2, 3, 5)),
		Homes: []int{0, 1, 2, 3, 4, 5}, Domains: 6})
	fromFails(t, "code x = matrix [0; 0]; use x;", api.Fault{Code: api.ErrSingular, Line: 1, Col: 25})
	fromFails(t, "use x;", api.Fault{Code: api.ErrName, Line: 1, Col: 1})
	fromFails(t, "use", api.Fault{Code: api.ErrSyntax, Line: 1, Col: 4})
	fromFails(t, "", api.Fault{Code: api.ErrType, Line: 1, Col: 1})
	fromFails(t, "code x = matrix [0]; use x;", api.Fault{Code: api.ErrSingular, Line: 1, Col: 22})
	fromFails(t, "code x = reed(2, 1)", api.Fault{Code: api.ErrSyntax, Line: 1, Col: 20})
}

// Each kind of code by itself, and within others.
func TestFromOfEachKind(t *testing.T) {
	codes := map[string]api.Code{
		"reed(3, 2)": slowReed(3, 2), "cross(2, 3)": slowCross(2, 3), "local(4, 2, 1)": slowLocal(4, 2, 1), "pyramid(2, 1, 1)": slowPyramid(2, 1, 1),
		"matrix [1, 2; 3, 4; 0, 255]": code(of(2, 1, 2, 3, 4, 0, 255)), "reed(1, 0)": slowReed(1, 0),
	}
	for text, c := range codes {
		fromIs(t, "code x = "+text+"; use x;", placed(c))
		fromIs(t, "code x = "+text+"; code y = x; code z = y; use z;", placed(c))
		for other, d := range codes {
			join, product := slowJoin(c, d), slowProduct(c, d)
			fromIs(t, "code x = join("+text+", "+other+"); use x;", placed(join))
			fromIs(t, "code x = "+text+"; code y = "+other+"; code z = product(x, y); use z;", placed(product))
			fromIs(t, "code x = "+text+"; code y = product(x, "+other+"); code z = join(y, x); use z;", placed(slowJoin(product, c)))
			fromIs(t, "code y = product(join("+text+", "+other+"), matrix [7; 9]); use y;", placed(slowProduct(join, code(of(1, 7, 9)))))
		}
	}
}

// Of several codes the one that is named is used, even if others come behind.
func TestFromOfTheUsedCode(t *testing.T) {
	codes := "code x = reed(2, 1); code y = local(1, 1, 0); code z = matrix [5];"
	for name, c := range map[string]api.Code{"x": slowReed(2, 1), "y": slowLocal(1, 1, 0), "z": code(of(1, 5))} {
		fromIs(t, codes+"use "+name+";", placed(c))
		fromIs(t, codes+"use "+name+"; code w = cross(30, 30); code v = matrix [0];", placed(c))
		fromIs(t, "code a = matrix [0, 0; 1, 1];"+codes+"code w = "+name+"; use w;", placed(c))
	}
}

func TestFromOfPlaces(t *testing.T) {
	base := placed(slowReed(2, 3))
	for text, want := range map[string]struct {
		domains, tolerate int
		homes             []int
	}{
		"":                                     {5, 0, []int{0, 1, 2, 3, 4}},
		"domains 2;":                           {2, 0, []int{0, 1, 0, 1, 0}},
		"domains 64;":                          {64, 0, []int{0, 1, 2, 3, 4}},
		"domains 1; tolerate 5;":               {1, 5, []int{0, 0, 0, 0, 0}},
		"place row; tolerate 0;":               {5, 0, []int{0, 1, 2, 3, 4}},
		"place spread; domains 2;":             {2, 0, []int{0, 0, 0, 1, 1}},
		"place spread; domains 3; tolerate 2;": {3, 2, []int{0, 0, 1, 1, 2}},
		"place spread; domains 10;":            {10, 0, []int{0, 2, 4, 6, 8}},
		"place spiral 2; domains 3;":           {3, 0, []int{0, 2, 1, 0, 2}},
		"place spiral 2147483647; domains 4;":  {4, 0, []int{0, 3, 2, 1, 0}},
		"place spiral 5;":                      {5, 0, []int{0, 0, 0, 0, 0}},
		"place list [4, 4, 0, 1, 4];":          {5, 0, []int{4, 4, 0, 1, 4}},
		"domains 64; place list [63, 0, 1, 62, 63]; tolerate 1;": {64, 1, []int{63, 0, 1, 62, 63}},
	} {
		l := base
		l.Domains, l.Tolerate, l.Homes = want.domains, want.tolerate, want.homes
		fromIs(t, "code x = reed(2, 3); use x; "+text, l)
		fromIs(t, text+" code x = reed(2, 3); use x;", l)
	}
}

func TestFromAtBounds(t *testing.T) {
	fromIs(t, "code x = reed(1, 63); use x; tolerate 2;", withTolerate(placed(slowReed(1, 63)), 2))
	fromIs(t, "code x = reed(64, 0); use x;", placed(slowReed(64, 0)))
	fromIs(t, "code x = product(reed(4, 4), cross(3, 5)); use x;", placed(slowProduct(slowReed(4, 4), slowCross(3, 5))))
	fromIs(t, "code x = join(reed(4, 28), local(8, 8, 16)); use x;", placed(slowJoin(slowReed(4, 28), slowLocal(8, 8, 16))))
	markFails(t, "code x = @reed(1, 64); use x;", api.ErrLimit)
	markFails(t, "code x = @product(reed(4, 1), cross(3, 10)); use x;", api.ErrLimit)
	fromIs(t, "code x = reed(7, 7); use x; tolerate 14;", withTolerate(placed(slowReed(7, 7)), 14))
	fromIs(t, "code x = reed(8, 7); use x; tolerate 7;", withTolerate(placed(slowReed(8, 7)), 7))
	markFails(t, "code x = reed(8, 7); use x; @tolerate 8;", api.ErrLimit)
	markFails(t, "code x = reed(7, 7); use x; @tolerate 15;", api.ErrType)
	markFails(t, "code x = reed(7, 7); use x; @tolerate -1;", api.ErrType)
	markFails(t, "code x = reed(7, 7); use x; @domains 0;", api.ErrType)
	markFails(t, "code x = reed(7, 7); use x; @domains 65;", api.ErrLimit)
	// A text of just MaxText bytes, and of one more.
	text := "code x = matrix [1, 2; 3, 4]; use x;"
	fromIs(t, text+strings.Repeat(" ", api.MaxText-len(text)), placed(code(of(2, 1, 2, 3, 4))))
	fromFails(t, text+strings.Repeat(" ", api.MaxText-len(text)+1), api.Fault{Code: api.ErrLimit, Line: 1, Col: 1})
}

func withTolerate(l api.Layout, tolerate int) api.Layout {
	l.Tolerate = tolerate
	return l
}

// Faults of each stage, where they stand.
func TestFromOfFaults(t *testing.T) {
	codes := "code x = reed(2, 1); code y = matrix [1, 1; 2, 2];\n"
	for text, e := range map[string]api.Errno{
		// Tokens.
		"@!": api.ErrLex, codes + "use x; @X": api.ErrLex, codes + "domains @01; use x;": api.ErrLex, codes + "use x; tolerate @2147483648;": api.ErrLex,
		"\n\n code @aaaaaaaaaaaaaaaaa = x;": api.ErrLex, "use x; # !\n @\x00": api.ErrLex, "code x@\xff = reed(2, 1);": api.ErrLex,
		// Syntax.
		codes + "use @;": api.ErrSyntax, codes + "use x@": api.ErrSyntax, codes + "use x; place @x;": api.ErrSyntax, codes + "@x": api.ErrSyntax,
		codes + "code z = matrix [1; @]; use x;": api.ErrSyntax, codes + "\n  use x @x;": api.ErrSyntax, "code x = reed(2@); use x;": api.ErrSyntax,
		// Limits of the tree.
		strings.Repeat("use x; ", 64) + "@use x;":                                  api.ErrLimit,
		"code x = reed(1, 1);\n@tolerate " + strings.Repeat("-", 16) + "1; use x;": api.ErrLimit,
		// Names and constants.
		codes + "@use z;": api.ErrName, codes + "code z = join(x, @w); use x;": api.ErrName, "@use x; code x = reed(2, 1);": api.ErrName,
		codes + "tolerate @x; use x;": api.ErrKind, "const c = 1; @use c;": api.ErrKind, codes + "@code x = reed(3, 1); use x;": api.ErrTwice,
		codes + "const c = 1 @/ 0; use x;": api.ErrZero, codes + "const c = 2147483647 @+ 1; use x;": api.ErrOver,
		// Types and sizes.
		codes + "use x; @use x;": api.ErrType, codes + "code z = @reed(0, 1); use x;": api.ErrType, codes + "code z = join(x, @local(4, 3, 0)); use x;": api.ErrType,
		codes + "code z = @matrix [1, 2]; use x;": api.ErrType, codes + "code z = @matrix [256]; use x;": api.ErrType, "@code x = reed(2, 1);": api.ErrType,
		codes + "use x; @place list [0, 1];": api.ErrType, codes + "use x; place list [0, 1, @3];": api.ErrType, codes + "use x; place list [0, @-1, 3];": api.ErrType,
		codes + "use x; @place spiral 0;": api.ErrType, codes + "use x; domains 1 @/ 0;": api.ErrZero, codes + "code z = @join(reed(30, 30), reed(2, 3)); use x;": api.ErrLimit,
		codes + "@tolerate 4; use x;": api.ErrType, "code x = reed(20, 20); use x; @tolerate 4;": api.ErrLimit,
		// A singular generator.
		codes + "@use y;": api.ErrSingular, codes + "tolerate 1; place spread;\n  # here\n\t @use y; domains 3;": api.ErrSingular,
		codes + "code z = join(x, y);\n\n   @use z;": api.ErrSingular, codes + "code z = product(y, x); @use z; code w = x;": api.ErrSingular,
		codes + "code z = y; code w = z; @use w;": api.ErrSingular, "code x = matrix [0]; @use x;": api.ErrSingular,
	} {
		markFails(t, text, e)
	}
}

// Of two faults that of the first stage is told, whichever stands ahead.
func TestFromOfTwoFaults(t *testing.T) {
	stages := []struct {
		text string
		e    api.Errno
	}{
		{"code lex = reed(2, @!);", api.ErrLex},
		{"code syntax @reed;", api.ErrSyntax},
		{"@tolerate " + strings.Repeat("-", 16) + "0;", api.ErrLimit},
		{"code name = @nothing;", api.ErrName},
		{"code type = @local(4, 3, 0);", api.ErrType},
		{"code singular = matrix [1, 1; 1, 1]; @use singular;", api.ErrSingular},
	}
	for i, first := range stages {
		for _, later := range stages[i+1:] {
			other := strings.ReplaceAll(later.text, "@", "")
			markFails(t, first.text+"\n"+other, first.e)
			markFails(t, other+" \n "+first.text, first.e)
		}
	}
}

// What is not used may be singular, and is no fault.
func TestFromOfSingularCodesThatAreNotUsed(t *testing.T) {
	want := placed(slowReed(2, 1))
	for _, text := range []string{
		"code y = matrix [0]; code x = reed(2, 1); use x;",
		"code x = reed(2, 1); use x; code y = matrix [1, 1; 1, 1]; code z = product(y, x);",
		"code y = matrix [0, 0; 0, 0]; code z = join(y, matrix [1]); code x = reed(2, 1); use x;",
	} {
		fromIs(t, text, want)
	}
}

// A matrix of MaxSide rows and columns, singular by one number or not.
func TestFromOfTheGreatestMatrix(t *testing.T) {
	write := func(g api.Matrix) string {
		rows := make([]string, g.Rows)
		for i := range rows {
			rows[i] = strings.Trim(strings.ReplaceAll(fmt.Sprint(g.Data[i*g.Cols:(i+1)*g.Cols]), " ", ","), "[]")
		}
		return "code x = matrix [" + strings.Join(rows, ";") + "];"
	}
	g := slow(64, 64, func(i, j int) byte { return 7 * oneIf(i+j == 63) })
	fromIs(t, write(g)+" use x;", placed(code(g)))
	for _, at := range []int{0, 31, 63} {
		less := slow(64, 64, func(i, j int) byte { return entry(g, i, j) * oneIf(i != at) })
		markFails(t, write(less)+" @use x;", api.ErrSingular)
	}
}

func TestFromOfAnyTexts(t *testing.T) {
	met := map[bool]int{}
	for seed := range 3000 {
		text, c := written(seed)
		want, e := slowBuild(c)
		met[e == api.OK]++
		if e == api.OK {
			fromIs(t, text, want)
			continue
		}
		ahead, behind, _ := strings.Cut(text, "use ")
		markFails(t, ahead+"@use "+behind, api.ErrSingular)
	}
	if met[true] < 1000 || met[false] < 100 {
		t.Errorf("%d texts have a layout, %d have none", met[true], met[false])
	}
}
