package typing_test

import (
	"fmt"
	"math"
	"slices"
	"strings"
	"testing"

	"recoup/api"
)

// P14.1: descriptions that are not as the rules ask; the mark shows where the
// fault stands.

func TestFaultsOfExamples(t *testing.T) {
	textFails(t, "@", api.ErrType)
	textFails(t, "code x = reed(1, 1); use x; @use x;", api.ErrType)
	textFails(t, "code x = @reed(0, 1);", api.ErrType)
	textFails(t, "code x = @local(4, 3, 1);", api.ErrType)
	textFails(t, "code x = @matrix [1, 2];", api.ErrType)
	textFails(t, "code x = @reed(60, 5);", api.ErrLimit)
	textFails(t, "code x = @matrix [1; 256];", api.ErrType)
	textFails(t, "code x = reed(1 @/ 0, 1);", api.ErrZero)
	textFails(t, "code x = reed(1, 1); use x; place list [0, @2];", api.ErrType)
	textFails(t, "code x = reed(20, 20); use x; @tolerate 4;", api.ErrLimit)
	if sets(40, 4) != 102091 {
		t.Errorf("%d sets", sets(40, 4))
	}
}

// wrong is an item's text, and its error; the mark shows where it stands, $ is
// a name that no other item makes.
type wrong struct {
	text string
	e    api.Errno
}

// wrongShapes are wrong by the table alone.
func wrongShapes() []wrong {
	return []wrong{
		{"@reed(0, 1)", api.ErrType}, {"@cross(0, 0)", api.ErrType}, {"@reed(- 1, 5)", api.ErrType}, {"@reed(- 2147483647, 2147483647)", api.ErrType},
		{"@reed(1, - 1)", api.ErrType}, {"@cross(5, 0 - 2)", api.ErrType}, {"@cross(64, - 2147483647)", api.ErrType},
		{"@reed(64, 1)", api.ErrLimit}, {"@reed(1, 64)", api.ErrLimit}, {"@reed(65, 0)", api.ErrLimit}, {"@cross(33, 32)", api.ErrLimit},
		{"@cross(2147483647, 0)", api.ErrLimit}, {"@reed(1, 2147483647)", api.ErrLimit}, {"@reed(2147483647, 2147483647)", api.ErrLimit},
		{"@local(0, 1, 1)", api.ErrType}, {"@pyramid(- 2, 2, 5)", api.ErrType}, {"@local(- 4, - 2, 20)", api.ErrType},
		{"@local(4, 0, 1)", api.ErrType}, {"@pyramid(0, 0, 0)", api.ErrType}, {"@pyramid(4, - 2, 1)", api.ErrType}, {"@local(4, - 1, 0)", api.ErrType},
		{"@local(4, 3, 1)", api.ErrType}, {"@pyramid(5, 2, 1)", api.ErrType}, {"@local(2, 4, 1)", api.ErrType}, {"@local(1, 2147483647, 1)", api.ErrType},
		{"@local(4, 2, - 1)", api.ErrType}, {"@pyramid(1, 1, - 2147483647)", api.ErrType}, {"@local(62, 2, - 60)", api.ErrType},
		{"@local(62, 2, 1)", api.ErrLimit}, {"@pyramid(1, 1, 63)", api.ErrLimit}, {"@local(64, 1, 0)", api.ErrLimit}, {"@pyramid(33, 33, 0)", api.ErrLimit}, {"@local(63, 1, 1)", api.ErrLimit},
		{"@local(2147483647, 2147483647, 2147483647)", api.ErrLimit}, {"@local(2147483647, 1, 0)", api.ErrLimit}, {"@pyramid(1, 1, 2147483647)", api.ErrLimit},
		{"@product(reed(5, 0), reed(13, 0))", api.ErrLimit}, {"@product(reed(8, 1), reed(8, 0))", api.ErrLimit}, {"@product(reed(64, 0), reed(1, 1))", api.ErrLimit}, {"@product(reed(32, 32), cross(64, 0))", api.ErrLimit},
		{"@join(reed(64, 0), reed(1, 0))", api.ErrLimit}, {"@join(reed(32, 0), cross(1, 32))", api.ErrLimit}, {"@join(reed(64, 0), reed(64, 0))", api.ErrLimit},
		{"@matrix [1, 2]", api.ErrType}, {"@matrix [1, 2, 3; 4, 5, 6]", api.ErrType}, {"@matrix [1, 2; 3]", api.ErrType}, {"@matrix [1; 2, 3]", api.ErrType},
		{"@matrix [1, 2; 3, 4; 5]", api.ErrType}, {"@matrix [1; 2; 3, 4; 5]", api.ErrType}, {"@matrix [1, 2, 3; 4; 5, 6]", api.ErrType},
		{"@matrix [256]", api.ErrType}, {"@matrix [- 1]", api.ErrType}, {"@matrix [1, 0; 2, 256]", api.ErrType}, {"@matrix [0 - 1; 3]", api.ErrType}, {"@matrix [2147483647]", api.ErrType},
		{"@matrix [511; 0]", api.ErrType}, {"@matrix [0; - 2147483647]", api.ErrType}, {"@matrix [0, 0; - 256, 0]", api.ErrType},
	}
}

// wrongExprs are expressions of which each has a fault of its own.
func wrongExprs() []wrong {
	return []wrong{{"1 @/ 0", api.ErrZero}, {"7 @% (3 - 3)", api.ErrZero}, {"2147483647 @+ 1", api.ErrOver}, {"- (2 * (65536 @* 65536))", api.ErrOver}, {"- 2147483647 @- 1", api.ErrOver}}
}

// wrongItems are wrong whatever stands ahead.
func wrongItems() []wrong {
	made := []wrong{
		{"@domains 0;", api.ErrType}, {"@domains - 1;", api.ErrType}, {"@domains - 2147483647;", api.ErrType}, {"@domains 65;", api.ErrLimit}, {"@domains 2147483647;", api.ErrLimit},
		{"@tolerate - 1;", api.ErrType}, {"@tolerate 0 - 2147483647;", api.ErrType},
		{"@place spiral 0;", api.ErrType}, {"@place spiral - 1;", api.ErrType}, {"@place spiral 1 - 2147483647;", api.ErrType},
		{"place list [@- 1];", api.ErrType}, {"place list [0, 1, 1 @- 2];", api.ErrType}, {"place list [@- 7, 5, - 3];", api.ErrType}, {"place list [99, @- 2147483647, 99];", api.ErrType},
	}
	for _, s := range wrongShapes() {
		made = append(made, wrong{"code $ = " + s.text + ";", s.e})
	}
	for _, x := range wrongExprs() {
		for _, slot := range []string{
			"domains ?;", "tolerate ?;", "place spiral ?;", "place list [?];", "place list [0, ?, 1];", "place list [0, 1, ?];",
			"code $ = reed(?, 1);", "code $ = reed(1, ?);", "code $ = cross(?, 1);", "code $ = cross(1, ?);",
			"code $ = local(?, 1, 1);", "code $ = local(1, ?, 1);", "code $ = local(1, 1, ?);",
			"code $ = pyramid(?, 1, 1);", "code $ = pyramid(1, ?, 1);", "code $ = pyramid(1, 1, ?);",
			"code $ = matrix [?];", "code $ = matrix [1, 2; ?, 4];", "code $ = matrix [1, 2; 3, ?];", "code $ = matrix [1, ?; 2, 3];",
			"code $ = join(reed(1, ?), reed(1, 1));", "code $ = product(reed(1, 1), product(matrix [1], cross(?, 0)));",
		} {
			made = append(made, wrong{strings.Replace(slot, "?", x.text, 1), x.e})
		}
	}
	return made
}

// named gives the items' names of their own, and leaves one mark, that of the
// item at a place (none, if there is none).
func named(keep int, l ...string) string {
	for i, text := range l {
		text = strings.ReplaceAll(text, "$", fmt.Sprint("q", i))
		if i != keep {
			text = strings.ReplaceAll(text, "@", "")
		}
		l[i] = text
	}
	return strings.Join(l, "\n ")
}

func TestEachItemThatIsWrong(t *testing.T) {
	for _, w := range wrongItems() {
		textFails(t, named(0, w.text), w.e)
		textFails(t, named(1, "\n\ncode x = reed(2, 1); const a = 1; use x;", w.text), w.e)
		textFails(t, named(1, "const a = 1; code x = reed(2, 1);", w.text, "use x; code y = reed(2, 1);"), w.e)
	}
}

// Each shape that is wrong as a part of another, in a part that is right and
// behind one.
func TestEachPartThatIsWrong(t *testing.T) {
	for _, w := range wrongShapes() {
		for _, of := range []string{
			"join(?, reed(1, 1))", "join(reed(1, 1), ?)", "product(?, x)", "product(x, ?)", "join(join(x, ?), matrix [1])", "product(x, join(product(?, x), x))",
			"product(?, ?)", "join(product(?, reed(0, 0)), reed(1 / 0, 1))", "join(x, join(product(x, ?), reed(60, 60)))",
		} {
			shape := strings.Replace(of, "?", w.text, 1)
			shape = strings.Replace(shape, "?", strings.Replace(w.text, "@", "", 1), 1)
			textFails(t, "code x = reed(1, 0); code y = "+shape+"; use y;", w.e)
		}
	}
}

// A matrix beyond its limits is no description.
func TestMatricesBeyondTheirLimits(t *testing.T) {
	row := func(count int) []api.Expr { return slices.Repeat([]api.Expr{{Kind: api.ENumber, N: 1}}, count) }
	matrix := func(rows ...[]api.Expr) api.Item {
		return api.Item{Kind: api.ICode, Name: "x", Shape: api.Shape{Kind: api.SMatrix, Rows: rows, Line: 5, Col: 6}}
	}
	checkFails(t, "no rows", fault(api.ErrArg, 0, 0), matrix())
	checkFails(t, "an empty row", fault(api.ErrArg, 0, 0), matrix(nil))
	checkFails(t, "an empty row behind", fault(api.ErrArg, 0, 0), matrix(row(1), row(0)))
	checkFails(t, "65 rows", fault(api.ErrArg, 0, 0), matrix(slices.Repeat([][]api.Expr{row(1)}, 65)...))
	checkFails(t, "65 columns", fault(api.ErrArg, 0, 0), matrix(row(65)))
	checkFails(t, "64 columns of one row", fault(api.ErrType, 5, 6), matrix(row(64)))
	checkFails(t, "64 columns of 63 rows", fault(api.ErrType, 5, 6), matrix(slices.Repeat([][]api.Expr{row(64)}, 63)...))
	checkFails(t, "the last row is shorter", fault(api.ErrType, 5, 6), matrix(append(slices.Repeat([][]api.Expr{row(64)}, 63), row(63))...))
}

// In one shape: its expressions from the left, then its type, then its limit.
func TestWhichFaultOfAShapeIsMetFirst(t *testing.T) {
	for _, a := range wrongExprs() {
		for _, b := range wrongExprs() {
			for _, two := range []string{
				"reed(?, !)", "cross(?, !)", "local(?, !, 1)", "local(1, ?, !)", "pyramid(?, 0, !)", "pyramid(0, ?, !)",
				"matrix [?, !]", "matrix [?; !]", "matrix [1, ?; 2, 3; !, 4]", "matrix [256, ?; !]",
				"join(reed(?, 1), reed(!, 1))", "join(reed(1, ?), reed(0, !))", "product(matrix [1; ?], product(reed(!, !), reed(!, 0)))",
			} {
				shape := strings.ReplaceAll(strings.Replace(two, "?", a.text, 1), "!", strings.Replace(b.text, "@", "", 1))
				textFails(t, "code x = "+shape+";", a.e)
			}
		}
		for _, first := range []string{
			"reed(0, ?)", "reed(65, ?)", "cross(?, - 1)", "cross(- 1, ?)", "local(4, 3, ?)", "local(0, 0, ?)", "pyramid(?, 0, 0)", "pyramid(65, ?, 65)",
			"matrix [1, ?]", "matrix [256; ?]", "matrix [1; 2, ?]", "matrix [?; 2, 1]", "matrix [?; - 1]",
		} {
			textFails(t, "code x = "+strings.Replace(first, "?", a.text, 1)+";", a.e)
		}
	}
	for _, shape := range []string{"@reed(0, 65)", "@reed(65, - 1)", "@cross(- 1, 2147483647)", "@local(65, 2, 1)", "@local(65, 65, - 1)", "@pyramid(65, 0, 1)", "@pyramid(0, 65, 65)"} {
		textFails(t, "code x = "+shape+";", api.ErrType)
	}
}

// Of two shapes of one item: that of the lesser place in Codes.
func TestWhichShapeIsMetFirst(t *testing.T) {
	for text, e := range map[string]api.Errno{
		"join(@reed(0, 1), reed(1 / 0, 1))":                          api.ErrType,
		"join(@reed(60, 5), reed(0, 1))":                             api.ErrLimit,
		"join(reed(1, 1), product(@reed(60, 5), reed(0, 1)))":        api.ErrLimit,
		"join(product(reed(1, 1), @reed(0, 0)), matrix [1, 2])":      api.ErrType,
		"join(@product(reed(9, 0), reed(8, 0)), reed(0, 1))":         api.ErrLimit,
		"join(@join(reed(60, 0), reed(5, 0)), reed(1 / 0, 1))":       api.ErrLimit,
		"join(reed(60, 0), join(reed(5, 0), matrix [1 @/ 0]))":       api.ErrZero,
		"@join(reed(60, 0), reed(5, 0))":                             api.ErrLimit,
		"product(join(reed(1, 0), reed(1 @/ 0, 0)), matrix [1, 2])":  api.ErrZero,
		"product(@matrix [1, 2], join(reed(1, 0), reed(1 / 0, 0)))":  api.ErrType,
		"@product(join(reed(4, 4), reed(1, 0)), join(x, reed(3,3)))": api.ErrLimit,
	} {
		textFails(t, "code x = reed(1, 1);\ncode y = "+text+";", e)
	}
}

// Of two items: the one ahead, whatever the kind of the fault.
func TestWhichItemIsMetFirst(t *testing.T) {
	all := wrongItems()
	for i, a := range all {
		for j := i % 7; j < len(all); j += 7 {
			textFails(t, named(0, a.text, all[j].text), a.e)
			textFails(t, named(1, "code x = reed(1, 1); use x;", a.text, "place row;", all[j].text), a.e)
		}
	}
}

// What is said a second time is wrong whatever it says, ahead of all else that
// is wrong with it.
func TestWhatIsSaidTwice(t *testing.T) {
	kinds := [][]string{
		{"use x;", "use y;", "use z;"},
		{"domains 3;", "domains 4;", "domains 0;", "domains 65;", "domains 1 / 0;"},
		{"tolerate 0;", "tolerate 1;", "tolerate - 1;", "tolerate 99;", "tolerate 2147483647 + 1;"},
		{"place row;", "place spread;", "place spiral 3;", "place list [0, 1];", "place spiral 0;", "place spiral 1 / 0;", "place list [1, - 1];", "place list [1 % 0];", "place list [9];"},
	}
	ahead := "code x = reed(1, 1); code y = cross(1, 1); code z = x;\n"
	for i, kind := range kinds {
		rest := slices.Concat(kinds[:i], kinds[i+1:])
		for _, first := range kind[:2] {
			for _, second := range kind {
				textFails(t, ahead+first+" @"+second, api.ErrType)
				textFails(t, ahead+first+" @"+second+second+"code w = reed(0, 1);", api.ErrType)
				textFails(t, ahead+first+rest[0][0]+rest[1][0]+rest[2][0]+"\n @"+second, api.ErrType)
				textFails(t, ahead+first+"const a = 1; @"+second+" domains 1; domains 1;", api.ErrType)
			}
		}
	}
	// A first one that is wrong is met first; constants and codes are said as
	// often as one likes.
	textFails(t, "@domains 0; domains 1;", api.ErrType)
	textFails(t, "tolerate 1 @/ 0; tolerate 1;", api.ErrZero)
	coreIs(t, "const a = 1; const b = 1; code x = reed(1, 1); code y = reed(1, 1); const c = 1; code z = y; use y;", used(reed(1, 1), reed(1, 1)))
}

func TestNoUseAtAll(t *testing.T) {
	for _, text := range []string{
		"", "const a = 1;", "code x = reed(1, 1);", "domains 3;", "tolerate 3;", "tolerate 2147483647;", "place row;", "place spread;", "place spiral 3;", "place list [99];",
		"code x = reed(1, 1); place list [0, 1, 2]; tolerate 5;", "\n\n  code x = reed(20, 20); tolerate 4;", "# nothing\n",
	} {
		textFails(t, "@"+text, api.ErrType)
	}
	checkFails(t, "no items", fault(api.ErrType, 1, 1))
	checkFails(t, "no items", fault(api.ErrType, 1, 1), []api.Item{}...)
}

// Of the whole: a list that does not fit, then a tolerance that does not.
func TestFaultsOfTheWhole(t *testing.T) {
	for text, e := range map[string]api.Errno{
		"@place list [0];":                                 api.ErrType,
		"@place list [0, 1];":                              api.ErrType,
		"@place list [0, 1, 2, 3];":                        api.ErrType,
		"@place list [9];":                                 api.ErrType,
		"@place list [0, 1, 2, 9];":                        api.ErrType,
		"place list [0, 1, @3];":                           api.ErrType,
		"place list [@3, 4, 5];":                           api.ErrType,
		"place list [0, @2147483647, 3];":                  api.ErrType,
		"place list [0, 2 @+ 1, 9];":                       api.ErrType,
		"domains 2; place list [0, 1, @2];":                api.ErrType,
		"place list [@1, 0, 0]; domains 1;":                api.ErrType,
		"domains 64; place list [63, @64, 0];":             api.ErrType,
		"place list [@- 1, 9];":                            api.ErrType,
		"@tolerate 4;":                                     api.ErrType,
		"@tolerate 2147483647;":                            api.ErrType,
		"tolerate 4; @place list [0, 1];":                  api.ErrType,
		"tolerate 4; place list [0, 1, @3];":               api.ErrType,
		"@tolerate 4; place list [0, 1, 2];":               api.ErrType,
		"domains 9; tolerate 4; @place list [8, 8, 8, 8];": api.ErrType,
		"tolerate 4; place list [0, 9, 0]; @domains 0;":    api.ErrType,
		"domains 2; @tolerate 5; place spread;":            api.ErrType,
	} {
		textFails(t, "code x = reed(2, 1); use x;\n "+text, e)
		textFails(t, text+"\ncode x = reed(2, 1); use x;", e)
		textFails(t, "code x = reed(2, 1);"+text+"code y = reed(9, 9); use x;", e)
	}
}

// What the items say is asked of the used code, not of another one.
func TestTheUsedCodeIsAsked(t *testing.T) {
	ahead := "code x = reed(1, 1); code y = reed(2, 1); code z = reed(20, 20); "
	textFails(t, ahead+"use y; @place list [0, 1];", api.ErrType)
	textFails(t, ahead+"use x; place list [0, @2];", api.ErrType)
	textFails(t, ahead+"use x; @tolerate 3;", api.ErrType)
	textFails(t, ahead+"use z; @tolerate 4;", api.ErrLimit)
	textFails(t, ahead+"code w = z; use w; @tolerate 4;", api.ErrLimit)
	textFails(t, ahead+"code w = join(x, y); use w; @tolerate 6;", api.ErrType)
	textFails(t, ahead+"code w = join(x, y); use w; @place list [0, 1, 2, 3];", api.ErrType)
	textFails(t, ahead+"use z; @tolerate 40; place spread;", api.ErrLimit)
	textFails(t, ahead+"use z; @tolerate 41; place spread;", api.ErrType)
	textFails(t, "code x = reed(64, 0); use x; @tolerate 64;", api.ErrLimit)
	textFails(t, "code x = reed(64, 0); use x; @tolerate 63;", api.ErrLimit)
	textFails(t, "code x = reed(64, 0); use x; @tolerate 3;", api.ErrLimit)
	textFails(t, "code x = reed(15, 0); use x; @tolerate 8;", api.ErrLimit)
	textFails(t, "code x = reed(15, 0); use x; @tolerate 15;", api.ErrLimit)
}

// Faults of names and of constants come ahead of all others, wherever they
// stand.
func TestFaultsOfNames(t *testing.T) {
	faults := []wrong{
		{"const a = @zz;", api.ErrName}, {"code $ = @zz;", api.ErrName}, {"@use zz;", api.ErrName}, {"domains 1 / 0 + @zz;", api.ErrName}, {"code $ = reed(0, @zz);", api.ErrName},
		{"const a = @x;", api.ErrKind}, {"@use one;", api.ErrKind}, {"code $ = join(reed(0, 0), @one);", api.ErrKind}, {"tolerate @x;", api.ErrKind},
		{"const a = 1 @/ 0;", api.ErrZero}, {"const a = one @% (one - 1);", api.ErrZero}, {"const a = 2147483647 @+ one;", api.ErrOver},
		{"@const one = 2;", api.ErrTwice}, {"@code one = x;", api.ErrTwice}, {"@code x = reed(0, 1);", api.ErrTwice}, {"@const x = 2;", api.ErrTwice},
	}
	for i, f := range faults {
		ahead := "const one = 1; code x = reed(2, 1);"
		textFails(t, named(1, ahead, f.text), f.e)
		textFails(t, named(1, ahead+"use x;", f.text, faults[(i+5)%len(faults)].text), f.e)
		textFails(t, named(1, ahead+"use x; use x;", f.text), f.e)
		textFails(t, named(1, ahead+"domains 1; domains 0;", f.text, "use x; tolerate 9;"), f.e)
		for _, w := range wrongItems() {
			textFails(t, named(2, ahead, w.text, f.text), f.e)
		}
	}
}

// A description that may not be has no place.
func TestWhatIsNoDescription(t *testing.T) {
	number := func(n int) api.Expr { return api.Expr{Kind: api.ENumber, N: n, Line: 3, Col: 4} }
	loop := make([]api.Expr, 2)
	loop[0] = api.Expr{Kind: api.EMul, L: loop}
	loop[1] = loop[0]
	parts := make([]api.Shape, 2)
	parts[0] = api.Shape{Kind: api.SJoin, Parts: parts}
	parts[1] = parts[0]
	for what, item := range map[string]api.Item{
		"no kind":                  {},
		"a kind behind the last":   {Kind: api.ITolerate + 1, Value: number(1)},
		"the greatest kind":        {Kind: math.MaxUint8},
		"a number below 0":         {Kind: api.IDomains, Value: number(-1)},
		"a use without a name":     {Kind: api.IUse},
		"a place of no kind":       {Kind: api.IPlace},
		"a place behind the last":  {Kind: api.IPlace, Place: api.PList + 1},
		"a list of none":           {Kind: api.IPlace, Place: api.PList},
		"a list of 65":             {Kind: api.IPlace, Place: api.PList, List: slices.Repeat([]api.Expr{number(0)}, 65)},
		"a row with a number":      {Kind: api.IPlace, Place: api.PRow, Value: number(1)},
		"a code of no kind":        {Kind: api.ICode, Name: "q"},
		"a code of one number":     {Kind: api.ICode, Name: "q", Shape: api.Shape{Kind: api.SReed, Args: []api.Expr{number(1)}}},
		"a code of one part":       {Kind: api.ICode, Name: "q", Shape: api.Shape{Kind: api.SJoin, Parts: []api.Shape{{Kind: api.SName, Name: "x"}}}},
		"a code of itself":         {Kind: api.ICode, Name: "q", Shape: parts[0]},
		"a constant of itself":     {Kind: api.IConst, Name: "q", Value: loop[0]},
		"a constant without value": {Kind: api.IConst, Name: "q"},
	} {
		item.Line, item.Col = 2, 3
		checkFails(t, what, fault(api.ErrArg, 0, 0), item)
		checkFails(t, what+" behind others", fault(api.ErrArg, 0, 0), append(read(t, "code x = reed(1, 1); use x;"), item)...)
		checkFails(t, what+" behind faults", fault(api.ErrArg, 0, 0), append(read(t, "use x; use x; domains 0;"), item)...)
		checkFails(t, what+" ahead of faults", fault(api.ErrArg, 0, 0), append([]api.Item{item}, read(t, "use x; use x; domains 0;")...)...)
	}
	checkFails(t, "65 items", fault(api.ErrArg, 0, 0), slices.Repeat(read(t, "const a = 1;"), 65)...)
}

// A part's place is told as it is, whatever it is.
func TestFaultsTellPlacesAsTheyAre(t *testing.T) {
	for _, place := range [][2]int{{0, 0}, {0, 3}, {3, 0}, {-1, -2}, {math.MaxInt, math.MinInt}, {70000, 1}} {
		for text, e := range map[string]api.Errno{"code x = reed(0, 1);": api.ErrType, "code x = reed(65, 1);": api.ErrLimit, "domains 0;": api.ErrType, "domains 65;": api.ErrLimit, "tolerate 1 / 0;": api.ErrZero,
			"place list [- 1, 2];": api.ErrType, "code x = reed(1, 0); use x; place list [1];": api.ErrType, "code x = reed(1, 0); use x; tolerate 2;": api.ErrType} {
			l := read(t, text)
			for i := range l {
				l[i].Line, l[i].Col = place[0], place[1]
			}
			for _, s := range shapes(l) {
				s.Line, s.Col = place[0], place[1]
			}
			for _, x := range exprs(l) {
				x.Line, x.Col = place[0], place[1]
			}
			checkFails(t, text, fault(e, place[0], place[1]), l...)
		}
	}
	// No use at all has its own place.
	l := read(t, "const a = 1;")
	l[0].Line, l[0].Col = 9, 9
	checkFails(t, "no use", fault(api.ErrType, 1, 1), l...)
}
