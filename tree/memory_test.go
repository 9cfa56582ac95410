package tree_test

import (
	"reflect"
	"slices"
	"testing"

	"recoup/api"
	"recoup/tree"
)

// Rule 5: what is answered is new memory, what is handed in stays. Rule 3: an
// error changes nothing.

// spoil writes over all that can be got at from a list, the room behind its
// end too.
func spoil(v reflect.Value) {
	switch v.Kind() {
	case reflect.Slice:
		v = v.Slice(0, v.Cap())
		for i := range v.Len() {
			spoil(v.Index(i))
		}
	case reflect.Struct:
		for i := range v.NumField() {
			spoil(v.Field(i))
		}
	case reflect.String:
		v.SetString("spoilt")
	case reflect.Int:
		v.SetInt(-77)
	case reflect.Uint8:
		v.SetUint(77)
	}
}

// shared is a description in which one list stands in many places.
func shared() []api.Item {
	l := []api.Expr{num(1), neg(name("a")), num(3)}
	x := api.Expr{Kind: api.EAdd, L: l[:2]}
	x = api.Expr{Kind: api.EMul, L: []api.Expr{x, x}}
	s := api.Shape{Kind: api.SMatrix, Rows: [][]api.Expr{l, l[:1], l[1:], l}}
	parts := []api.Shape{s, {Kind: api.SLocal, Args: l}}
	s = api.Shape{Kind: api.SJoin, Parts: []api.Shape{{Kind: api.SJoin, Parts: parts}, {Kind: api.SProduct, Parts: parts}}}
	return []api.Item{constant("a", x), domains(x), code("x", s), code("y", s), listed(l...), listed(l[:1]...), use("x")}
}

func descriptions(t *testing.T) [][]api.Item {
	return [][]api.Item{nil, {use("x")}, items()[:api.MaxItems], shared(), placed(shared(), 1), many(t, api.MaxNodes), {constant("a", nested(16)), code("x", nestedShape(16))}}
}

func TestStripIsNewMemory(t *testing.T) {
	for _, l := range descriptions(t) {
		want := nowhere(l)
		first, _ := tree.Strip(l...)
		second, _ := tree.Strip(l...)
		if !apart(first, second) {
			t.Errorf("Strip(%s) has lists that share memory", short(l))
		}
		if shares(pieces(l), pieces(first)) {
			t.Errorf("Strip(%s) shares memory with what was handed in", short(l))
		}
		held := copied(l)
		spoil(reflect.ValueOf(first))
		if !equal(reflect.ValueOf(second), reflect.ValueOf(want)) {
			t.Errorf("what is done to one answer changes another: %s", short(second))
		}
		if !reflect.DeepEqual(l, held) {
			t.Errorf("what is done to an answer changes what was handed in: %s", short(l))
		}
		stripIs(t, l)
	}
}

// shares tells whether pieces of the one tree and of the other lie in each
// other.
func shares(a, b []piece) bool {
	for _, p := range a {
		for _, q := range b {
			if p.from < q.to && q.from < p.to {
				return true
			}
		}
	}
	return false
}

// What was handed in may be changed behind the call.
func TestStripKeepsNothing(t *testing.T) {
	for _, l := range descriptions(t) {
		l = copied(l)
		want := nowhere(l)
		got, _ := tree.Strip(l...)
		spoil(reflect.ValueOf(l))
		if !equal(reflect.ValueOf(got), reflect.ValueOf(want)) {
			t.Errorf("what is done to what was handed in changes an answer: %s", short(got))
		}
	}
}

// Neither is what is handed in changed, nor what lies behind its end.
func TestWhatIsHandedInStays(t *testing.T) {
	behind := slices.Repeat([]api.Item{{}, use("behind"), domains(num(1))}, 8)
	bad := [][]api.Item{{{}}, {use("x"), domains(num(-1))}, {code("x", nestedShape(17))}, many(t, api.MaxNodes+1), {wide(api.MaxText + 1)}}
	for _, l := range append(descriptions(t), bad...) {
		room := slices.Concat(l, behind)
		held := copied(room)
		got := room[:len(l)]
		tree.May(got...)
		tree.Same(got, got)
		tree.Text(got...)
		tree.Strip(got...)
		for _, x := range got {
			tree.MayExpr(x.Value)
			tree.Deep(x.Value)
			tree.ExprText(x.Value)
			tree.MayShape(x.Shape)
			tree.ShapeText(x.Shape)
		}
		if !reflect.DeepEqual(room, held) {
			t.Errorf("what was handed in is changed: %s", short(room))
		}
	}
}

// What lies behind the end of a list is of no moment.
func TestRoomBehindTheEnd(t *testing.T) {
	l := []api.Expr{num(1), num(2), num(3), {}, {Kind: 99}}
	exprIs(t, api.Expr{Kind: api.ENegate, L: l[:1]}, "- 1", 2)
	exprIs(t, api.Expr{Kind: api.EAdd, L: l[:2]}, "( 1 + 2 )", 2)
	exprIs(t, api.Expr{Kind: api.ENumber, N: 5, L: l[:0]}, "5", 1)
	shapeIs(t, of(api.SReed, l[:2]...), "reed ( 1 , 2 )")
	shapeIs(t, of(api.SLocal, l[:3]...), "local ( 1 , 2 , 3 )")
	shapeIs(t, api.Shape{Kind: api.SMatrix, Rows: [][]api.Expr{l[:1], l[:3], nil}[:2]}, "matrix [ 1 ; 1 , 2 , 3 ]")
	shapeIs(t, api.Shape{Kind: api.SName, Name: "x", Args: l[:0], Rows: [][]api.Expr{l}[:0]}, "x")
	itemsAre(t, "place list [ 1 , 2 ] ;\n", listed(l[:2]...))
	itemsAre(t, "use x ;\n", []api.Item{use("x"), {}}[:1]...)
	itemsAre(t, "use x ;\n", api.Item{Kind: api.IUse, Name: "x", List: l[:0], Value: api.Expr{L: l[:0]}})
}

func TestTextsAreNewMemory(t *testing.T) {
	l := []api.Item{constant("a", num(1)), use("x")}
	first, _ := tree.Text(l...)
	l[0].Name, l[1] = "b", row()
	second, _ := tree.Text(l...)
	if first != "const a = 1 ;\nuse x ;\n" || second != "const b = 1 ;\nplace row ;\n" {
		t.Errorf("Text = %q and %q", first, second)
	}
}

func TestErrorsChangeNothing(t *testing.T) {
	for range 2 {
		itemsAreNot(t, "an item of no kind", api.Item{})
		exprIsNot(t, "one too deep", nested(17))
		if _, e := tree.Text(wide(api.MaxText + 1)); e != api.ErrLimit {
			t.Errorf("Text: %v", e)
		}
		shapeIsNot(t, "no shape", api.Shape{})
		exprIs(t, neg(num(5)), "- 5", 2)
		shapeIs(t, shaped("x"), "x")
		itemsAre(t, "use x ;\n", use("x"))
	}
}
