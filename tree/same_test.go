package tree_test

import (
	"math"
	"reflect"
	"slices"
	"testing"

	"recoup/api"
	"recoup/tree"
)

// P10.2

func sameIs(t *testing.T, a, b []api.Item, want bool) {
	t.Helper()
	if tree.Same(a, b) != want || tree.Same(b, a) != want {
		t.Errorf("Same of %s and %s is not %v", short(a), short(b), want)
	}
}

func TestSameOfExamples(t *testing.T) {
	a := constant("a", num(1))
	first, second := a, a
	first.Line, second.Line = 1, 2
	sameIs(t, []api.Item{first}, []api.Item{second}, true)
	sameIs(t, []api.Item{a}, []api.Item{constant("b", num(1))}, false)
}

// Each of the items is the same as it alone, wherever its parts stand.
func TestSameOfEachKind(t *testing.T) {
	all := items()
	for i, a := range all {
		for j, b := range all {
			want := slowItem(a).text == slowItem(b).text
			sameIs(t, []api.Item{a}, []api.Item{b}, want)
			sameIs(t, []api.Item{placed(a, i)}, []api.Item{placed(b, 1000+j)}, want)
			sameIs(t, []api.Item{row(), a, use("x")}, []api.Item{row(), b, use("x")}, want)
			sameIs(t, []api.Item{a, b}, []api.Item{b, a}, want)
		}
		sameIs(t, []api.Item{a}, nil, false)
		sameIs(t, []api.Item{a}, []api.Item{a, a}, false)
	}
	most := all[len(all)-api.MaxItems:]
	sameIs(t, most, placed(most, 7), true)
	sameIs(t, most, most[:len(most)-1], false)
	sameIs(t, most, most[1:], false)
	sameIs(t, nil, nil, true)
	sameIs(t, nil, []api.Item{}, true)
}

func TestSameOfWhatDiffersInOnePart(t *testing.T) {
	pairs := [][2]api.Item{
		{constant("a", num(1)), constant("a", num(2))},
		{constant("a", num(0)), constant("a", name("a"))},
		{constant("a", neg(num(1))), constant("a", num(1))},
		{constant("a", two(api.EAdd, num(1), num(2))), constant("a", two(api.ESub, num(1), num(2)))},
		{constant("a", two(api.EAdd, num(1), num(2))), constant("a", two(api.EAdd, num(2), num(1)))},
		{constant("a", two(api.EAdd, num(1), two(api.EAdd, num(2), num(3)))), constant("a", two(api.EAdd, two(api.EAdd, num(1), num(2)), num(3)))},
		{domains(num(1)), tolerate(num(1))},
		{row(), spread()},
		{spiral(num(1)), listed(num(1))},
		{spiral(num(1)), spiral(num(2))},
		{listed(num(1)), listed(num(1), num(1))},
		{listed(num(1), num(2)), listed(num(2), num(1))},
		{use("x"), use("y")},
		{use("x"), use("xx")},
		{code("x", shaped("y")), code("x", shaped("z"))},
		{code("x", shaped("y")), code("y", shaped("y"))},
		{code("x", of(api.SReed, num(1), num(2))), code("x", of(api.SCross, num(1), num(2)))},
		{code("x", of(api.SReed, num(1), num(2))), code("x", of(api.SReed, num(1), num(3)))},
		{code("x", of(api.SLocal, num(1), num(2), num(3))), code("x", of(api.SPyramid, num(1), num(2), num(3)))},
		{code("x", both(api.SJoin, shaped("x"), shaped("y"))), code("x", both(api.SProduct, shaped("x"), shaped("y")))},
		{code("x", both(api.SJoin, shaped("x"), shaped("y"))), code("x", both(api.SJoin, shaped("y"), shaped("x")))},
		{code("x", table(2, 3, num(1))), code("x", table(3, 2, num(1)))},
		{code("x", table(1, 2, num(1))), code("x", table(2, 1, num(1)))},
		{code("x", table(2, 2, num(1))), code("x", table(2, 2, num(2)))},
		{code("x", api.Shape{Kind: api.SMatrix, Rows: [][]api.Expr{{num(1)}, {num(1), num(1)}}}), code("x", api.Shape{Kind: api.SMatrix, Rows: [][]api.Expr{{num(1), num(1)}, {num(1)}}})},
	}
	for _, p := range pairs {
		sameIs(t, p[:1], p[1:], false)
		sameIs(t, p[:1], []api.Item{copied(p[0])}, true)
		sameIs(t, p[1:], []api.Item{placed(p[1], 5)}, true)
		sameIs(t, []api.Item{use("a"), p[0], row()}, []api.Item{use("a"), p[1], row()}, false)
	}
}

// What may not be is the same as nothing, not even as itself.
func TestSameOfWhatMayNotBe(t *testing.T) {
	for _, bad := range []api.Item{{}, use("use"), use(""), domains(num(-1)), {Kind: api.IUse, Name: "x", Value: api.Expr{Line: 1}}, {Kind: api.IUse, Name: "x", Place: api.PRow}, code("x", nestedShape(17)), listed()} {
		sameIs(t, []api.Item{bad}, []api.Item{bad}, false)
		sameIs(t, []api.Item{bad}, nil, false)
		sameIs(t, []api.Item{use("x"), bad}, []api.Item{use("x"), bad}, false)
		sameIs(t, []api.Item{use("x"), bad}, []api.Item{use("x")}, false)
		sameIs(t, []api.Item{bad}, []api.Item{use("x")}, false)
	}
	sameIs(t, slices.Repeat([]api.Item{use("x")}, 65), slices.Repeat([]api.Item{use("x")}, 65), false)
	sameIs(t, slices.Repeat([]api.Item{use("x")}, 64), slices.Repeat([]api.Item{use("x")}, 65), false)
	sameIs(t, many(t, api.MaxNodes+1), many(t, api.MaxNodes+1), false)
	sameIs(t, many(t, api.MaxNodes), many(t, api.MaxNodes+1), false)
}

func TestSameOfAsMuchAsMayBe(t *testing.T) {
	sameIs(t, many(t, api.MaxNodes), placed(many(t, api.MaxNodes), 3), true)
	sameIs(t, many(t, api.MaxNodes), many(t, api.MaxNodes-1), false)
	other := many(t, api.MaxNodes)
	other[1].Shape.Rows[61][63] = num(7)
	sameIs(t, many(t, api.MaxNodes), other, false)
	// The text is too long, and not asked for.
	sameIs(t, []api.Item{wide(api.MaxText + 9)}, []api.Item{placed(wide(api.MaxText+9), 1)}, true)
	sameIs(t, []api.Item{wide(api.MaxText + 9)}, []api.Item{wide(api.MaxText + 10)}, false)
}

func TestSameOfListsWithinThemselves(t *testing.T) {
	l := make([]api.Expr, 2)
	l[0], l[1] = num(1), api.Expr{Kind: api.EAdd, L: l}
	endless := []api.Item{use("x"), domains(l[1])}
	sameIs(t, endless, endless, false)
	sameIs(t, endless, []api.Item{use("x"), domains(num(1))}, false)
	sameIs(t, []api.Item{use("x"), domains(num(1))}, endless, false)
}

// stripIs asks for the same tree with all places 0; its empty lists count as
// ones that are not there.
func stripIs(t *testing.T, l []api.Item) {
	t.Helper()
	got, e := tree.Strip(l...)
	if e != api.OK || len(got) != len(l) {
		t.Fatalf("Strip(%s) has %d items, %v", short(l), len(got), e)
	}
	for i := range l {
		want := nowhere(l[i])
		if !equal(reflect.ValueOf(got[i]), reflect.ValueOf(want)) {
			t.Errorf("Strip(%s) = %s", short(want), short(got[i]))
		}
	}
}

func equal(a, b reflect.Value) bool {
	switch a.Kind() {
	case reflect.Slice:
		if a.Len() != b.Len() {
			return false
		}
		for i := range a.Len() {
			if !equal(a.Index(i), b.Index(i)) {
				return false
			}
		}
		return true
	case reflect.Struct:
		for i := range a.NumField() {
			if !equal(a.Field(i), b.Field(i)) {
				return false
			}
		}
		return true
	}
	return a.Equal(b)
}

func TestStripOfEachKind(t *testing.T) {
	all := items()
	for i, x := range all {
		stripIs(t, []api.Item{x})
		stripIs(t, []api.Item{placed(x, i)})
		stripIs(t, []api.Item{placed(x, 99), row(), placed(x, -9)})
		x.Line, x.Col = math.MinInt, math.MaxInt
		stripIs(t, []api.Item{x})
	}
	stripIs(t, placed(all[:api.MaxItems], 1))
	stripIs(t, placed(all[len(all)-api.MaxItems:], 1))
	stripIs(t, nil)
	stripIs(t, placed(many(t, api.MaxNodes), 1))
	stripIs(t, []api.Item{placed(wide(api.MaxText+9), 1)})
	stripIs(t, slices.Repeat([]api.Item{placed(use("x"), 1)}, api.MaxItems))
	stripIs(t, []api.Item{{Kind: api.IUse, Name: "x", Line: 3, Value: api.Expr{L: []api.Expr{}}, Shape: api.Shape{Args: []api.Expr{}, Rows: [][]api.Expr{}}, List: []api.Expr{}}})
}

func TestStripOfWhatMayNotBe(t *testing.T) {
	for _, bad := range []api.Item{{}, use("use"), domains(num(-1)), {Kind: api.IUse, Name: "x", Shape: api.Shape{Col: 1}}, code("x", of(api.SReed, num(1))), listed()} {
		for _, l := range [][]api.Item{{bad}, {use("x"), bad}, {bad, use("x")}} {
			if got, e := tree.Strip(l...); len(got) != 0 || e != api.ErrArg {
				t.Errorf("Strip(%s) = %s, %v; want ErrArg", short(l), short(got), e)
			}
		}
	}
}
