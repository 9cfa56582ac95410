package parse_test

import (
	"strings"
	"testing"

	"recoup/api"
)

// P11.1

func TestProgramOfExamples(t *testing.T) {
	text := "const a = 1; code x = reed(a, 2); use x;"
	programIs(t, text, constant("a", num(1)), code("x", of(api.SReed, name("a"), num(2))), use("x"))
	programIs(t, text,
		api.Item{Kind: api.IConst, Name: "a", Line: 1, Col: 1, Value: api.Expr{Kind: api.ENumber, N: 1, Line: 1, Col: 11}},
		api.Item{Kind: api.ICode, Name: "x", Line: 1, Col: 14, Shape: api.Shape{Kind: api.SReed, Line: 1, Col: 23, Args: []api.Expr{
			{Kind: api.EName, Name: "a", Line: 1, Col: 28}, {Kind: api.ENumber, N: 2, Line: 1, Col: 31}}}},
		api.Item{Kind: api.IUse, Name: "x", Line: 1, Col: 35})
	programFails(t, "use x", api.ErrSyntax, 1, 6)
	programFails(t, "use use;", api.ErrSyntax, 1, 5)
	programFails(t, "place up;", api.ErrSyntax, 1, 7)
	programFails(t, "use x; !", api.ErrLex, 1, 8)
	programFails(t, strings.Repeat("use x;\n", 65), api.ErrLimit, 65, 1)
}

func TestProgramOfNoItems(t *testing.T) {
	for _, text := range []string{"", " ", "\n", "\t\n ", "#", "# use x;", "#\n\n  # const\n", strings.Repeat("\n", api.MaxText)} {
		programIs(t, text)
		tidyIs(t, text, "")
	}
}

func TestProgramOfEachItem(t *testing.T) {
	sum := two(api.EAdd, num(1), name("a"))
	programIs(t, "const a=1+a;", constant("a", sum))
	programIs(t, "code x=y;", code("x", shaped("y")))
	programIs(t, "code x=cross(1+a,2);", code("x", of(api.SCross, sum, num(2))))
	programIs(t, "code x=join(y,matrix[1+a]);", code("x", both(api.SJoin, shaped("y"), table([]api.Expr{sum}))))
	programIs(t, "use abcdefghijklmnop;", use("abcdefghijklmnop"))
	programIs(t, "domains 1+a;", domains(sum))
	programIs(t, "tolerate 1+a;", tolerate(sum))
	programIs(t, "place row;", row())
	programIs(t, "place spread;", spread())
	programIs(t, "place spiral 1+a;", spiral(sum))
	programIs(t, "place spiral(1)+a;", spiral(sum))
	programIs(t, "place list[1+a];", listed(sum))
	programIs(t, "place list[1,-2,1+a];", listed(num(1), neg(num(2)), sum))
	programIs(t, "domains-3;tolerate(2);", domains(neg(num(3))), tolerate(num(2)))
	// Neither twice the same nor another order is a fault of the grammar.
	programIs(t, "use x;use x;const x=1;", use("x"), use("x"), constant("x", num(1)))
}

func TestProgramPlaces(t *testing.T) {
	programIs(t, "# c\n  place\nlist [ 1 ,\n  2+3 ] ;\tplace row;tolerate\n -a;",
		api.Item{Kind: api.IPlace, Place: api.PList, Line: 2, Col: 3, List: []api.Expr{
			{Kind: api.ENumber, N: 1, Line: 3, Col: 8},
			{Kind: api.EAdd, Line: 4, Col: 4, L: []api.Expr{
				{Kind: api.ENumber, N: 2, Line: 4, Col: 3}, {Kind: api.ENumber, N: 3, Line: 4, Col: 5}}}}},
		api.Item{Kind: api.IPlace, Place: api.PRow, Line: 4, Col: 11},
		api.Item{Kind: api.ITolerate, Line: 4, Col: 21, Value: api.Expr{Kind: api.ENegate, Line: 5, Col: 2, L: []api.Expr{
			{Kind: api.EName, Name: "a", Line: 5, Col: 3}}}})
	for seed := range 5000 {
		from := seeded(seed)
		text, want := written(from, from.items()...)
		programIs(t, text, want...)
	}
}

func TestProgramOfWrongTexts(t *testing.T) {
	for _, c := range []struct {
		text      string
		line, col int
	}{
		{";", 1, 1}, {"use x;;", 1, 7}, {"x = 1;", 1, 1}, {"7;", 1, 1}, {"a", 1, 1}, {"reed(1,2);", 1, 1}, {"row;", 1, 1},
		{"use", 1, 4}, {"use\n", 2, 1}, {"use;", 1, 4}, {"use 7;", 1, 5}, {"use x y;", 1, 7}, {"use x,y;", 1, 6}, {"use x use y;", 1, 7}, {"use reed(1,2);", 1, 5},
		{"const", 1, 6}, {"const a", 1, 8}, {"const a =", 1, 10}, {"const a = 1", 1, 12}, {"const 1 = 1;", 1, 7}, {"const use = 1;", 1, 7},
		{"const a 1;", 1, 9}, {"const a = ;", 1, 11}, {"const a = reed(1,2);", 1, 11}, {"const a = 1, b = 2;", 1, 12}, {"const a = b = 2;", 1, 13}, {"const a = 1 2;", 1, 13},
		{"code x", 1, 7}, {"code x = 1;", 1, 10}, {"code x = ;", 1, 10}, {"code x = y + z;", 1, 12}, {"code x = (y);", 1, 10}, {"code reed = x;", 1, 6}, {"code = x;", 1, 6}, {"code x = reed(1, 2)", 1, 20},
		{"code x = reed(1, 2;", 1, 19}, {"code x = matrix[1; 2;", 1, 22}, {"code x = matrix[1; 2];]", 1, 23},
		{"domains", 1, 8}, {"domains;", 1, 8}, {"domains = 3;", 1, 9}, {"domains 3", 1, 10}, {"domains 3, 4;", 1, 10}, {"domains row;", 1, 9},
		{"tolerate", 1, 9}, {"tolerate;", 1, 9}, {"tolerate 3 4;", 1, 12}, {"tolerate x y;", 1, 12},
		{"place", 1, 6}, {"place;", 1, 6}, {"place 1;", 1, 7}, {"place code;", 1, 7}, {"place matrix;", 1, 7}, {"place row 1;", 1, 11}, {"place row", 1, 10}, {"place spread row;", 1, 14},
		{"place spiral;", 1, 13}, {"place spiral", 1, 13}, {"place spiral 1, 2;", 1, 15}, {"place spiral [1];", 1, 14},
		{"place list;", 1, 11}, {"place list", 1, 11}, {"place list 1;", 1, 12}, {"place list (1);", 1, 12}, {"place list [];", 1, 13}, {"place list [1", 1, 14}, {"place list [1,", 1, 15},
		{"place list [1,];", 1, 15}, {"place list [1;2];", 1, 14}, {"place list [1 2];", 1, 15}, {"place list [1]", 1, 15}, {"place list [1], 2;", 1, 15},
		{"use x;\n# all\nuse y;\n  use 1;", 4, 7}, {"use x;\nuse y; # use\n", 0, 0}, {"use x;\nuse y # use\n", 3, 1},
	} {
		if c.line == 0 {
			programIs(t, c.text, use("x"), use("y"))
			continue
		}
		programFails(t, c.text, api.ErrSyntax, c.line, c.col)
	}
}

// A word where a name is asked for, or what stands first in an item.
func TestProgramOfWords(t *testing.T) {
	for _, word := range strings.Fields(allWords) {
		programFails(t, "use "+word+";", api.ErrSyntax, 1, 5)
		programFails(t, "use x;\n const "+word+" = 1;", api.ErrSyntax, 2, 8)
		programFails(t, "code "+word+" = x;", api.ErrSyntax, 1, 6)
		programFails(t, "const a = "+word+";", api.ErrSyntax, 1, 11)
		programIs(t, "use "+word+"1;const z"+word+"=1;", use(word+"1"), constant("z"+word, num(1)))
		if !strings.Contains(" row spread spiral list ", " "+word+" ") {
			programFails(t, "place "+word+";", api.ErrSyntax, 1, 7)
		}
		if !strings.Contains(" const code use domains tolerate place ", " "+word+" ") {
			programFails(t, "\n"+word+" x = 1;", api.ErrSyntax, 2, 1)
		}
	}
}
