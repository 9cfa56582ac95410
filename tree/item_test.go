package tree_test

import (
	"fmt"
	"math"
	"slices"
	"strings"
	"testing"

	"recoup/api"
	"recoup/tree"
)

// P10.1, P10.3: items, and descriptions of them.

func TestTextOfExamples(t *testing.T) {
	itemsAre(t, "const a = 1 ;\nuse x ;\n", constant("a", num(1)), use("x"))
	itemsAre(t, "")
	itemsAreNot(t, "an item of no kind", api.Item{})
	itemsAreNot(t, "65 items of no kind", make([]api.Item, 65)...)
}

func TestItemOfEachKind(t *testing.T) {
	itemsAre(t, "const a = ( 1 + b ) ;\n", constant("a", two(api.EAdd, num(1), name("b"))))
	itemsAre(t, "code x = reed ( 4 , 2 ) ;\n", code("x", of(api.SReed, num(4), num(2))))
	itemsAre(t, "code x = y ;\n", code("x", shaped("y")))
	itemsAre(t, "use x ;\n", use("x"))
	itemsAre(t, "domains 3 ;\n", domains(num(3)))
	itemsAre(t, "tolerate - a ;\n", tolerate(neg(name("a"))))
	itemsAre(t, "place row ;\n", row())
	itemsAre(t, "place spread ;\n", spread())
	itemsAre(t, "place spiral ( 2 * 3 ) ;\n", spiral(two(api.EMul, num(2), num(3))))
	itemsAre(t, "place list [ 0 ] ;\n", listed(num(0)))
	itemsAre(t, "place list [ 0 , a , ( 1 - 2 ) ] ;\n", listed(num(0), name("a"), two(api.ESub, num(1), num(2))))
	itemsAre(t, "code x = matrix [ 1 , 0 ; 0 , 1 ] ;\nuse x ;\nuse x ;\nplace row ;\nplace spread ;\n",
		code("x", api.Shape{Kind: api.SMatrix, Rows: [][]api.Expr{{num(1), num(0)}, {num(0), num(1)}}}), use("x"), use("x"), row(), spread())
}

func TestNoItems(t *testing.T) {
	itemsAre(t, "", nil...)
	itemsAre(t, "", []api.Item{}...)
	if !tree.Same(nil, []api.Item{}) || !tree.Same(make([]api.Item, 0, 4), nil) {
		t.Error("no items are not the same as none")
	}
	if l, e := tree.Strip(); len(l) != 0 || e != api.OK {
		t.Errorf("Strip() = %v, %v", l, e)
	}
}

func TestNamesOfItems(t *testing.T) {
	for _, text := range []string{"a", "z9", "places", "abcdefghijklmnop"} {
		itemsAre(t, "use "+text+" ;\nconst "+text+" = 1 ;\ncode "+text+" = x ;\n", use(text), constant(text, num(1)), code(text, shaped("x")))
	}
	for _, text := range badNames() {
		itemsAreNot(t, "a use of "+short(text), use(text))
		itemsAreNot(t, "a const "+short(text), constant(text, num(1)))
		itemsAreNot(t, "a code "+short(text), code(text, shaped("x")))
		itemsAreNot(t, "a value with "+short(text), domains(name(text)))
		itemsAreNot(t, "a shape with "+short(text), code("x", shaped(text)))
	}
}

func TestKindsThatAreNoItem(t *testing.T) {
	for kind := range 256 {
		for _, x := range items() {
			if kind >= int(api.IConst) && kind <= int(api.ITolerate) {
				continue
			}
			x.Kind = api.ItemKind(kind)
			itemsAreNot(t, short(x), x)
		}
		if kind < int(api.PRow) || kind > int(api.PList) {
			for _, x := range []api.Item{row(), spiral(num(1)), listed(num(1))} {
				x.Place = api.PlaceKind(kind)
				itemsAreNot(t, short(x), x)
			}
		}
	}
	itemsAreNot(t, "a place of no kind", api.Item{Kind: api.IPlace})
}

// Each kind taken for each other one has a field too many, or too few, unless
// both ask for the same.
func TestItemsTakenForOthers(t *testing.T) {
	for _, x := range items() {
		for kind := api.IConst; kind <= api.ITolerate; kind++ {
			made := x
			made.Kind = kind
			if itemFields[kind] == itemFields[x.Kind] && x.Kind != api.IPlace {
				itemsAre(t, slowItem(made).text, made)
			} else if kind != x.Kind {
				itemsAreNot(t, short(made), made)
			}
		}
	}
	for place := api.PRow; place <= api.PList; place++ {
		for _, x := range []api.Item{row(), spread(), spiral(num(1)), listed(num(1))} {
			made := x
			made.Place = place
			if placeFields[place] == placeFields[x.Place] {
				itemsAre(t, slowItem(made).text, made)
			} else {
				itemsAreNot(t, short(made), made)
			}
		}
	}
}

func TestItemsWithFieldsTooMany(t *testing.T) {
	with := []any{"a", "use", " ", num(0), num(1), name("a"), neg(num(1)),
		api.Expr{Line: 1}, api.Expr{Col: 1}, api.Expr{Line: -1}, api.Expr{N: 1}, api.Expr{Name: "a"}, api.Expr{L: []api.Expr{num(1)}}, api.Expr{L: make([]api.Expr, 1)}, api.Expr{Kind: api.ENegate}, api.Expr{Kind: 99},
		shaped("a"), of(api.SReed, num(1), num(2)), api.Shape{Line: 1}, api.Shape{Col: 1}, api.Shape{Col: math.MinInt}, api.Shape{Name: "a"}, api.Shape{Args: []api.Expr{num(1)}}, api.Shape{Parts: []api.Shape{shaped("a")}}, api.Shape{Rows: [][]api.Expr{nil}}, api.Shape{Kind: api.SMatrix}, api.Shape{Kind: 99},
		api.PRow, api.PSpread, api.PSpiral, api.PList, api.PlaceKind(99),
		[]api.Expr{num(1)}, []api.Expr{num(1), num(2)}, make([]api.Expr, 1)}
	for _, x := range items() {
		fields := itemFields[x.Kind]
		if x.Kind == api.IPlace {
			fields = placeFields[x.Place]
		}
		l := crowded(x, fields, with)
		if len(l) < 15 {
			t.Fatalf("%d fields too many of %s", len(l), short(x))
		}
		for _, made := range l {
			itemsAreNot(t, short(made), made.(api.Item))
			itemsAreNot(t, "a use and "+short(made), use("x"), made.(api.Item))
		}
	}
}

func TestItemsWithFieldsTooFew(t *testing.T) {
	for kind := api.NoItem; kind <= api.ITolerate; kind++ {
		itemsAreNot(t, fmt.Sprint("nothing of the kind ", kind), api.Item{Kind: kind})
	}
	itemsAreNot(t, "a const without a value", api.Item{Kind: api.IConst, Name: "a"})
	itemsAreNot(t, "a const without a name", api.Item{Kind: api.IConst, Value: num(1)})
	itemsAreNot(t, "a code without a shape", api.Item{Kind: api.ICode, Name: "a"})
	itemsAreNot(t, "a code without a name", api.Item{Kind: api.ICode, Shape: shaped("x")})
	itemsAreNot(t, "a spiral without a value", api.Item{Kind: api.IPlace, Place: api.PSpiral})
	itemsAreNot(t, "a list without any", listed())
	itemsAreNot(t, "a list without any", listed([]api.Expr{}...))
	// What stands there is nothing, though it is not zero.
	for _, x := range []api.Expr{{Line: 1}, {Col: 1}, {N: 1}, {Name: "a"}, {L: []api.Expr{num(1)}}} {
		itemsAreNot(t, "a const of "+short(x), constant("a", x))
		itemsAreNot(t, "domains of "+short(x), domains(x))
		itemsAreNot(t, "a spiral of "+short(x), spiral(x))
		itemsAreNot(t, "a list of "+short(x), listed(x))
	}
	for _, s := range []api.Shape{{Line: 1}, {Col: 1}, {Name: "a"}, {Args: []api.Expr{num(1), num(2)}}, {Rows: [][]api.Expr{{num(1)}}}} {
		itemsAreNot(t, "a code of "+short(s), code("x", s))
	}
}

func TestItemsWithEmptyLists(t *testing.T) {
	for _, x := range items() {
		want := slowItem(x).text
		if x.List == nil {
			x.List = []api.Expr{}
		}
		if x.Value.L == nil {
			x.Value.L = make([]api.Expr, 0, 2)
		}
		if x.Shape.Kind == api.NoShape {
			x.Shape = api.Shape{Args: []api.Expr{}, Parts: []api.Shape{}, Rows: make([][]api.Expr, 0, 2)}
		}
		itemsAre(t, want, x)
	}
}

func TestItemsDoNotAskForTheirPlace(t *testing.T) {
	for i, x := range items() {
		itemsAre(t, slowItem(x).text, placed(x, i))
		x.Line, x.Col = math.MaxInt, math.MinInt
		itemsAre(t, slowItem(x).text, x)
	}
}

func TestLists(t *testing.T) {
	for _, count := range []int{1, 2, 63, api.MaxSide} {
		x := listed(slices.Repeat([]api.Expr{num(3)}, count)...)
		itemsAre(t, "place list [ 3"+strings.Repeat(" , 3", count-1)+" ] ;\n", x)
		for _, at := range []int{0, count / 2, count - 1} {
			for _, bad := range []api.Expr{{}, num(-1), name("use"), nested(17), {Line: 1}} {
				made := copied(x)
				made.List[at] = bad
				itemsAreNot(t, "a list with "+short(bad), made)
			}
		}
	}
	itemsAreNot(t, "a list of one too many", listed(slices.Repeat([]api.Expr{num(3)}, api.MaxSide+1)...))
	itemsAreNot(t, "a list of very many", listed(make([]api.Expr, 1<<16)...))
}

// What is wrong is found in each item, wherever it stands.
func TestItemsWithPartsThatMayNotBe(t *testing.T) {
	bad := []api.Item{constant("a", api.Expr{}), domains(num(-1)), tolerate(num(api.MaxNumber + 1)), spiral(name("row")), listed(num(1), api.Expr{}), code("x", api.Shape{}), code("x", of(api.SReed, num(1), nested(17))), use("use"), {}, code("x", nestedShape(17)), constant("a", nested(17))}
	for _, x := range bad {
		itemsAreNot(t, short(x), x)
		for at := range 4 {
			l := []api.Item{use("x"), row(), constant("a", num(1)), use("y")}
			l[at] = x
			itemsAreNot(t, fmt.Sprint(short(x), " at ", at), l...)
		}
	}
}

func TestItemsAsDeepAsMayBe(t *testing.T) {
	for _, l := range [][]api.Item{{constant("a", nested(16)), domains(nested(16)), tolerate(nested(16)), spiral(nested(16)), listed(nested(16), nested(16))}, {code("x", nestedShape(16)), code("y", of(api.SReed, nested(16), nested(16)))}} {
		f, _ := slowItems(l)
		itemsAre(t, f.text, l...)
	}
}

func TestAsManyItemsAsMayBe(t *testing.T) {
	for _, count := range []int{1, 63, api.MaxItems} {
		itemsAre(t, strings.Repeat("use x ;\n", count), slices.Repeat([]api.Item{use("x")}, count)...)
	}
	for _, count := range []int{api.MaxItems + 1, 2 * api.MaxItems, 1 << 16} {
		itemsAreNot(t, fmt.Sprint(count, " items"), slices.Repeat([]api.Item{use("x")}, count)...)
	}
}

// many is a description of so many parts, above 8160.
func many(t *testing.T, count int) []api.Item {
	t.Helper()
	l := []api.Item{
		code("x", table(64, 64, num(1))),
		code("y", table(62, 64, num(1))),
		listed(slices.Repeat([]api.Expr{num(2)}, 64)...),
		constant("a", neg(num(1))), domains(num(3)), spiral(name("b")),
		code("z", both(api.SJoin, of(api.SReed, num(1), num(2)), shaped("z"))),
	}
	f, ok := slowItems(l)
	for range count - (f.parts - 1) {
		l = append(l, use("x"))
	}
	f, _ = slowItems(l)
	if !ok || f.parts-1 != count || len(l) >= api.MaxItems-2 {
		t.Fatalf("the description has %d parts, %d items", f.parts-1, len(l))
	}
	return l
}

func TestDescriptionsOfAsMuchAsMayBe(t *testing.T) {
	for _, count := range []int{api.MaxNodes - 1, api.MaxNodes} {
		f, _ := slowItems(many(t, count))
		itemsAre(t, f.text, many(t, count)...)
	}
	itemsAreNot(t, "one too many", many(t, api.MaxNodes+1)...)
	// What is put to a description with so much left just fits, and does not
	// if one less is left, ahead of all else and behind.
	for _, more := range []struct {
		parts int
		x     api.Item
	}{
		{1, use("x")}, {1, row()}, {1, spread()}, {2, domains(num(1))}, {2, tolerate(name("a"))}, {2, spiral(num(1))}, {2, constant("a", num(1))}, {3, constant("a", neg(num(1)))}, {4, constant("a", two(api.EAdd, num(1), num(2)))},
		{2, listed(num(1))}, {4, listed(num(1), num(2), num(3))}, {2, code("x", shaped("y"))}, {4, code("x", of(api.SCross, num(1), num(2)))}, {5, code("x", of(api.SPyramid, num(1), num(2), num(3)))}, {4, code("x", both(api.SJoin, shaped("x"), shaped("y")))},
		{3, code("x", table(1, 1, num(1)))}, {8, code("x", table(2, 3, num(1)))}, {8, code("x", table(3, 1, neg(num(1))))},
	} {
		l := append(many(t, api.MaxNodes-more.parts), more.x)
		f, _ := slowItems(l)
		itemsAre(t, f.text, l...)
		slices.Reverse(l)
		f, _ = slowItems(l)
		itemsAre(t, f.text, l...)
		l = append(many(t, api.MaxNodes-more.parts+1), more.x)
		itemsAreNot(t, "one too many by "+short(more.x), l...)
		slices.Reverse(l)
		itemsAreNot(t, "one too many by "+short(more.x), l...)
	}
	itemsAre(t, "code x = "+wholeShape(manyParts(api.MaxNodes-1)).text+" ;\n", code("x", manyParts(api.MaxNodes-1)))
	itemsAreNot(t, "one too many, in one shape", code("x", manyParts(api.MaxNodes)))
	itemsAre(t, "domains "+wholeExpr(full(13, num(1))).text+" ;\n", domains(full(13, num(1))))
	itemsAreNot(t, "one too many, in one expression", domains(neg(full(13, num(1)))))
	itemsAreNot(t, "two wholes", domains(full(13, num(1))), domains(full(13, num(1))))
}

func TestItemsThatStandWithinThemselves(t *testing.T) {
	l := make([]api.Expr, 1)
	l[0] = api.Expr{Kind: api.ENegate, L: l}
	itemsAreNot(t, "a list that stands within itself", listed(l...))
	itemsAreNot(t, "a value that stands within itself", constant("a", l[0]))
	itemsAreNot(t, "values that stand within themselves", use("x"), domains(l[0]), tolerate(l[0]), spiral(l[0]))
	parts := make([]api.Shape, 2)
	parts[0], parts[1] = shaped("x"), api.Shape{Kind: api.SJoin, Parts: parts}
	itemsAreNot(t, "a shape that stands within itself", code("x", parts[1]))
	itemsAreNot(t, "a value that is none, and stands within itself", api.Item{Kind: api.IUse, Name: "x", Value: l[0]})
	itemsAreNot(t, "a shape that is none, and stands within itself", api.Item{Kind: api.IUse, Name: "x", Shape: parts[1]})
}

// wide is a code whose text, with its line's end, has so many bytes: beside
// its expressions there are 12308.
func wide(size int) api.Item {
	s := api.Shape{Kind: api.SMatrix}
	for row := range slices.Chunk(long(4096, size-12308), 64) {
		s.Rows = append(s.Rows, row)
	}
	return code("x", s)
}

func TestTextsOfAsMuchAsMayBe(t *testing.T) {
	lines := func(size int) []api.Item { // each of 900 bytes more
		return slices.Repeat([]api.Item{domains(full(8, long(128, size-900)...))}, 32)
	}
	for _, l := range [][]api.Item{
		{wide(api.MaxText)},
		{wide(api.MaxText - 8), use("x")},
		{use("x"), wide(api.MaxText - 8)},
		{row(), wide(api.MaxText - 12 - 14 - 27), constant("a", num(1)), listed(num(1), num(2), num(3))},
		lines(api.MaxText / 32),
	} {
		f, _ := slowItems(l)
		itemsAre(t, f.text, l...)
		if len(f.text) != api.MaxText {
			t.Errorf("the text has %d bytes", len(f.text))
		}
	}
	for _, l := range [][]api.Item{
		{wide(api.MaxText + 1)}, // it is the line's end that is too much
		{wide(api.MaxText + 2)},
		{wide(api.MaxText), use("x")},
		{use("x"), wide(api.MaxText)},
		{wide(api.MaxText - 8), use("xy")},
		{use("xy"), wide(api.MaxText - 8)},
		{wide(api.MaxText - 7), use("x")},
		append(lines(api.MaxText / 32)[1:], lines(api.MaxText/32 + 1)[0]), // no line is too long
		lines(api.MaxText/32 + 1),
	} {
		itemsMay(t, "too much", l...)
		if got, e := tree.Text(l...); got != "" || e != api.ErrLimit {
			f, _ := slowItems(l)
			t.Errorf("Text of %d bytes = %s, %v; want ErrLimit", len(f.text), short(got), e)
		}
	}
}

// What may not be is told ahead of a text that is too long, wherever it stands.
func TestTextOfTwoErrors(t *testing.T) {
	for _, bad := range []api.Item{{}, use("use"), domains(num(-1)), code("x", api.Shape{}), {Kind: api.IUse, Name: "x", Value: api.Expr{Line: 1}}} {
		itemsAreNot(t, "too much, and "+short(bad), wide(api.MaxText+100), bad)
		itemsAreNot(t, short(bad)+", and too much", bad, wide(api.MaxText+100))
		itemsAreNot(t, "too much, and "+short(bad), use("x"), wide(api.MaxText+1), use("x"), bad)
	}
	itemsAreNot(t, "too much, and too many items", slices.Repeat([]api.Item{constant("a", full(6, long(32, 500)...))}, api.MaxItems+1)...)
	itemsAreNot(t, "too much, and too many parts", wide(api.MaxText+1), wide(api.MaxText+1))
}
