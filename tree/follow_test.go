package tree_test

import (
	"fmt"
	"math"
	"reflect"
	"slices"
	"strings"
	"testing"

	"recoup/api"
	"recoup/token"
	"recoup/tree"
)

// P10.4, and all promises at trees of any kind.

func (s *source) expr(deep int) api.Expr {
	if deep <= 1 || s.below(3) == 0 {
		if s.below(2) == 0 {
			return num(one(s, []int{0, 1, 2, 10, api.MaxNumber}))
		}
		return name(one(s, []string{"a", "b", "ab", "n1"}))
	}
	kind := api.ENegate + api.ExprKind(s.below(6))
	if kind == api.ENegate {
		return neg(s.expr(deep - 1))
	}
	return two(kind, s.expr(deep-1), s.expr(deep-1))
}

func (s *source) exprs(count, deep int) []api.Expr {
	l := make([]api.Expr, count)
	for i := range l {
		l[i] = s.expr(deep)
	}
	return l
}

func (s *source) shape(deep int) api.Shape {
	kind := api.SName + api.ShapeKind(s.below(8))
	if deep <= 1 && (kind == api.SProduct || kind == api.SJoin) {
		kind = api.SName
	}
	made := api.Shape{Kind: kind}
	switch shapeFields[kind] {
	case "Name":
		made.Name = one(s, []string{"x", "y", "xy"})
	case "Args":
		made.Args = s.exprs(strings.Count(shapeTexts[kind], "%s"), 3)
	case "Parts":
		made.Parts = []api.Shape{s.shape(deep - 1), s.shape(deep - 1)}
	case "Rows":
		for range 1 + s.below(3) {
			made.Rows = append(made.Rows, s.exprs(1+s.below(3), 2))
		}
	}
	return made
}

func (s *source) item() api.Item {
	made := api.Item{Kind: api.IConst + api.ItemKind(s.below(6))}
	fields := itemFields[made.Kind]
	if made.Kind == api.IPlace {
		made.Place = api.PRow + api.PlaceKind(s.below(4))
		fields = placeFields[made.Place]
	}
	for _, field := range strings.Fields(fields) {
		switch field {
		case "Name":
			made.Name = one(s, []string{"a", "x"})
		case "Value":
			made.Value = s.expr(1 + s.below(4))
		case "Shape":
			made.Shape = s.shape(3)
		case "List":
			made.List = s.exprs(1+s.below(4), 2)
		}
	}
	return made
}

func (s *source) items() []api.Item {
	l := make([]api.Item, s.below(5))
	for i := range l {
		l[i] = s.item()
	}
	return l
}

// changed is a copy of a description in one part of which, of any kind, one
// field is another.
func (s *source) changed(l []api.Item) []api.Item {
	made := copied(l)
	var parts []reflect.Value
	visit(reflect.ValueOf(made), func(part reflect.Value) { parts = append(parts, part) })
	if len(parts) == 0 {
		return made
	}
	part := one(s, parts)
	field := part.Field(s.below(part.NumField()))
	switch v := field.Interface().(type) {
	case int:
		field.SetInt(int64(one(s, []int{0, 1, 2, -1, api.MaxNumber, api.MaxNumber + 1})))
	case string:
		field.SetString(one(s, []string{"", "a", "b", "x", "use", "row", "A"}))
	case []api.Expr:
		field.Set(reflect.ValueOf(otherList(s, v, s.expr(2))))
	case []api.Shape:
		field.Set(reflect.ValueOf(otherList(s, v, s.shape(2))))
	case [][]api.Expr:
		field.Set(reflect.ValueOf(otherList(s, v, s.exprs(s.below(3), 1))))
	case api.Expr:
		field.Set(reflect.ValueOf(one(s, []api.Expr{{}, {Line: 1}, s.expr(2)})))
	case api.Shape:
		field.Set(reflect.ValueOf(one(s, []api.Shape{{}, {Col: 1}, s.shape(2)})))
	default: // a kind
		field.SetUint(uint64(s.below(11)))
	}
	return made
}

// otherList has one more at its end, one less, one instead of another, or is
// turned round.
func otherList[T any](s *source, l []T, x T) []T {
	made := slices.Clone(l)
	switch s.below(4) {
	case 0:
		return append(made, x)
	case 1:
		slices.Reverse(made)
		return made
	}
	if len(made) == 0 {
		return made
	}
	if s.below(2) == 0 {
		return made[:len(made)-1]
	}
	made[s.below(len(made))] = x
	return made
}

func TestAnyDescriptions(t *testing.T) {
	const all = 8000
	may, same := 0, 0
	for seed := range all {
		s := seeded(seed)
		a := placed(s.items(), seed)
		b := s.changed(a)
		fa, oka := slowItems(a)
		fb, okb := slowItems(b)
		alike := oka && okb && fa.text == fb.text
		if !oka || tree.May(a...) != oka || tree.May(b...) != okb || tree.Same(a, b) != alike || tree.Same(b, a) != alike {
			t.Fatalf("%s and %s: %v, %v, %v", short(a), short(b), tree.May(a...), tree.May(b...), tree.Same(a, b))
		}
		itemsAre(t, fa.text, a...)
		stripIs(t, a)
		if okb {
			itemsAre(t, fb.text, b...)
			stripIs(t, b)
			may++
		} else {
			itemsAreNot(t, short(b), b...)
		}
		if alike {
			same++
		}
	}
	if may < all/8 || all-may < all/8 || same < all/16 || may-same < all/32 {
		t.Errorf("of the changed ones %d may be, of which %d are the same", may, same)
	}
}

func TestAnyExprsAndShapes(t *testing.T) {
	for seed := range 5000 {
		s := seeded(seed)
		x, shape := s.expr(s.below(9)), s.shape(s.below(5))
		f := wholeExpr(x)
		exprIs(t, placed(x, seed), f.text, f.deep)
		shapeIs(t, placed(shape, seed), wholeShape(shape).text)
		l := s.changed([]api.Item{domains(x), code("x", shape)})
		if f = wholeExpr(l[0].Value); f.parts > 0 {
			exprIs(t, l[0].Value, f.text, f.deep)
		} else {
			exprIsNot(t, short(l[0].Value), l[0].Value)
		}
		if f = wholeShape(l[1].Shape); f.parts > 0 {
			shapeIs(t, l[1].Shape, f.text)
		} else {
			shapeIsNot(t, short(l[1].Shape), l[1].Shape)
		}
	}
}

// Two descriptions have one text just if they are the same: of all there are
// of a few small parts.
func TestOneTextJustIfTheSame(t *testing.T) {
	small := []api.Expr{num(0), num(1), name("a"), name("b"), neg(num(1)), neg(neg(num(1)))}
	for kind := api.EAdd; kind <= api.ERest; kind++ {
		small = append(small, two(kind, num(1), name("a")), two(kind, name("a"), num(1)), two(kind, neg(num(1)), name("a")), neg(two(kind, num(1), name("a"))))
	}
	var all [][]api.Item
	for _, x := range small {
		all = append(all, []api.Item{constant("a", x)}, []api.Item{domains(x)}, []api.Item{tolerate(x)}, []api.Item{spiral(x)}, []api.Item{listed(x)}, []api.Item{listed(x, x)}, []api.Item{domains(x), domains(x)})
	}
	for _, s := range shapes() {
		all = append(all, []api.Item{code("a", s)}, []api.Item{code("b", s)}, []api.Item{code("a", s), use("a")})
	}
	for i, a := range all {
		for j, b := range all {
			first, _ := tree.Text(a...)
			second, _ := tree.Text(placed(b, j)...)
			if tree.Same(a, b) != (first == second) || (first == second) != (i == j) {
				t.Fatalf("%q and %q: Same = %v", first, second, tree.Same(a, b))
			}
		}
	}
}

func TestStripIsTheSame(t *testing.T) {
	for seed := range 2000 {
		l := placed(seeded(seed).items(), seed)
		stripped, e := tree.Strip(l...)
		if e != api.OK || !tree.Same(l, stripped) || !tree.Same(stripped, l) {
			t.Fatalf("Strip(%s) = %s, %v", short(l), short(stripped), e)
		}
		first, _ := tree.Text(l...)
		second, _ := tree.Text(stripped...)
		again, _ := tree.Strip(stripped...)
		if first != second || !equal(reflect.ValueOf(again), reflect.ValueOf(stripped)) {
			t.Fatalf("%q and %q", first, second)
		}
	}
}

// pairs is how many expressions of two parts there are.
func pairs(x api.Expr) int {
	count := 0
	visit(reflect.ValueOf(x), func(part reflect.Value) {
		if part.FieldByName("L").Len() == 2 {
			count++
		}
	})
	return count
}

func TestBracketsOfExprs(t *testing.T) {
	for seed := range 2000 {
		x := seeded(seed).expr(1 + seed%9)
		text, _ := tree.ExprText(x)
		if strings.Count(text, "(") != pairs(x) || strings.Count(text, ")") != pairs(x) {
			t.Fatalf("%q has %d expressions of two parts", text, pairs(x))
		}
	}
	text, _ := tree.ExprText(full(13, num(1)))
	if strings.Count(text, "(") != 4095 {
		t.Errorf("%d brackets", strings.Count(text, "("))
	}
}

// A text's lines are cut into tokens that are joined to it.
func TestTextsAreJoinedTokens(t *testing.T) {
	for seed := range 2000 {
		l := seeded(seed).items()
		text, _ := tree.Text(l...)
		lines := strings.SplitAfter(text, "\n")
		if len(lines) != len(l)+1 || lines[len(l)] != "" {
			t.Fatalf("%q has no line for each of %d items", text, len(l))
		}
		for _, line := range lines[:len(l)] {
			tokens, f := token.Cut(line)
			joined, e := token.Join(tokens...)
			if f != (api.Fault{}) || e != api.OK || joined+"\n" != line {
				t.Fatalf("%q is cut into %v, %v", line, tokens, f)
			}
		}
	}
}

// No call panics, whatever it is given.
func TestAnythingAtAll(t *testing.T) {
	loop := make([]api.Expr, 2)
	parts := make([]api.Shape, 2)
	for _, n := range []int{0, 1, -1, math.MaxInt, math.MinInt} {
		for kind := range 12 {
			for _, l := range [][]api.Expr{nil, {}, loop, loop[:1], make([]api.Expr, 3), {num(1), num(2)}} {
				for _, text := range []string{"", "a", "use", "\xff\x00"} {
					x := api.Expr{Kind: api.ExprKind(kind), N: n, Name: text, L: l, Line: n, Col: n}
					s := api.Shape{Kind: api.ShapeKind(kind), Name: text, Args: l, Parts: parts[:max(0, min(2, n))], Rows: [][]api.Expr{l, nil}[:max(0, min(2, n))], Line: n}
					loop[0], loop[1], parts[0], parts[1] = x, x, s, s
					one := api.Item{Kind: api.ItemKind(kind), Name: text, Value: x, Shape: s, Place: api.PlaceKind(kind), List: l, Col: n}
					if tree.MayExpr(x) != (tree.Deep(x) > 0) || tree.May(one) != tree.Same([]api.Item{one}, []api.Item{one}) {
						t.Error(fmt.Sprint("the kind ", kind, " with ", n, " and ", text))
					}
					_, e := tree.ExprText(x)
					_, e2 := tree.ShapeText(s)
					_, e3 := tree.Text(one, one)
					if (e == api.OK) != tree.MayExpr(x) || (e2 == api.OK) != tree.MayShape(s) || (e3 == api.OK) != tree.May(one) {
						t.Error(fmt.Sprint("texts of the kind ", kind, " with ", n, " and ", text))
					}
				}
			}
		}
	}
}
