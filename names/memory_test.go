package names_test

import (
	"reflect"
	"slices"
	"testing"

	"recoup/api"
	"recoup/names"
)

// Rule 5: what is answered is new memory, what is handed in stays. Rule 3: an
// error changes nothing.

// lies tells whether two lists share memory, the room behind their ends too.
func lies[S, T any](a []S, b []T) bool {
	if cap(a) == 0 || cap(b) == 0 {
		return false
	}
	fromA, fromB := reflect.ValueOf(a).Pointer(), reflect.ValueOf(b).Pointer()
	endA := fromA + uintptr(cap(a))*reflect.TypeFor[S]().Size()
	endB := fromB + uintptr(cap(b))*reflect.TypeFor[T]().Size()
	return fromA < endB && fromB < endA
}

// spoil writes over a list, the room behind its end too.
func spoil[T any](l []T, with T) {
	l = l[:cap(l)]
	for i := range l {
		l[i] = with
	}
}

var (
	spoiltSymbol = api.Symbol{Name: "spoilt", Kind: api.KConst, Item: -7, N: -7}
	spoiltConst  = api.Const{Name: "spoilt", N: -7}
)

// newEachTime asks twice, spoils the first answer and asks again.
func newEachTime[T comparable](t *testing.T, what string, with T, ask func() []T) {
	t.Helper()
	first, second := ask(), ask()
	held := slices.Clone(first)
	if lies(first, second) {
		t.Errorf("two answers of %s share memory", what)
	}
	spoil(first, with)
	if !slices.Equal(second, held) || !slices.Equal(ask(), held) {
		t.Errorf("what is done to an answer of %s changes another", what)
	}
}

func texts() []string {
	made := []string{"", "const a = 1;", "use x;", "const a = 2; const b = a * a; code x = reed(b, a); use x;"}
	for seed := range 500 {
		made = append(made, anyText(seed, 50))
	}
	return made
}

func TestAnswersAreNewMemory(t *testing.T) {
	for _, text := range texts() {
		l := read(t, text)
		newEachTime(t, "Table", spoiltSymbol, func() []api.Symbol {
			made, _ := names.Table(l...)
			return made
		})
		newEachTime(t, "Used", "spoilt", func() []string {
			made, _ := names.Used(l...)
			return made
		})
		table, _ := names.Table(l...)
		newEachTime(t, "Env", spoiltConst, func() []api.Const { return names.Env(table...) })
	}
	newEachTime(t, "Env", spoiltConst, func() []api.Const { return names.Env(symbols()...) })
}

// An answer shares nothing with the symbols that it was made of.
func TestAnswersAreNoArguments(t *testing.T) {
	for _, l := range [][]api.Symbol{nil, symbols(), symbols()[:2], {constSymbol("a", 0, 2)}} {
		held := slices.Clone(l)
		env := names.Env(l...)
		want := slices.Clone(env)
		if lies(env, l) {
			t.Error("Env shares memory with what was handed in")
		}
		s, _ := names.Look(l, "a")
		s.Name, s.N = "spoilt", -7
		spoil(names.Env(l...), spoiltConst)
		if !slices.Equal(l, held) {
			t.Errorf("what is done to an answer changes what was handed in: %v", l)
		}
		spoil(l, spoiltSymbol)
		if !slices.Equal(env, want) {
			t.Errorf("what is done to what was handed in changes an answer: %v", env)
		}
	}
}

// What was handed in may be changed behind the call.
func TestAnswersKeepNothing(t *testing.T) {
	for _, text := range texts() {
		l := read(t, text)
		table, _ := names.Table(l...)
		used, _ := names.Used(l...)
		heldTable, heldUsed := slices.Clone(table), slices.Clone(used)
		spoilItems(l)
		if !slices.Equal(table, heldTable) || !slices.Equal(used, heldUsed) {
			t.Errorf("what is done to %s changes an answer", text)
		}
	}
}

// spoilItems writes over all that can be got at from the items.
func spoilItems(l []api.Item) {
	for i := range l {
		spoilExprs(l[i].Value.L)
		spoilExprs(l[i].List)
		spoilShapes([]api.Shape{l[i].Shape})
		l[i] = use("spoilt")
	}
}

func spoilShapes(l []api.Shape) {
	for i := range l {
		spoilExprs(l[i].Args)
		for _, row := range l[i].Rows {
			spoilExprs(row)
		}
		spoilShapes(l[i].Parts)
		l[i] = shaped("spoilt")
	}
}

func spoilExprs(l []api.Expr) {
	for i := range l {
		spoilExprs(l[i].L)
		l[i] = name("spoilt")
	}
}

// roomy is a description each of whose lists has something behind its end.
func roomy() []api.Item {
	exprs := func(l ...api.Expr) []api.Expr {
		return append(l, name("behind"), api.Expr{}, api.Expr{Kind: 99})[:len(l)]
	}
	sum := api.Expr{Kind: api.EAdd, L: exprs(name("a"), api.Expr{Kind: api.ENegate, L: exprs(num(1))})}
	one := api.Expr{Kind: api.ENumber, N: 1, L: exprs()}
	matrix := api.Shape{Kind: api.SMatrix, Rows: [][]api.Expr{exprs(name("a"), one), exprs(sum), {name("behind")}}[:2]}
	parts := []api.Shape{matrix, of(api.SReed, exprs(sum, name("b"))...), shaped("behind"), {}}[:2]
	return []api.Item{
		constant("a", one), constant("b", sum), code("x", api.Shape{Kind: api.SJoin, Parts: parts}), use("x"),
		domains(name("b")), listed(exprs(sum, one, name("a"))...), use("behind"), {}, constant("a", one),
	}[:6]
}

// whole is a copy of a tree's part, the room behind the ends of its lists too.
func whole(v reflect.Value) reflect.Value {
	made := reflect.New(v.Type()).Elem()
	switch v.Kind() {
	case reflect.Slice:
		v = v.Slice(0, v.Cap())
		for i := range v.Len() {
			made = reflect.Append(made, whole(v.Index(i)))
		}
	case reflect.Struct:
		for i := range v.NumField() {
			made.Field(i).Set(whole(v.Field(i)))
		}
	default:
		made.Set(v)
	}
	return made
}

// Neither is what is handed in changed, nor what lies behind its end; and what
// lies there is of no moment.
func TestWhatIsHandedInStays(t *testing.T) {
	l := roomy()
	held := whole(reflect.ValueOf(l)).Interface()
	tableIs(t, l, constSymbol("a", 0, 1), constSymbol("b", 1, 0), codeSymbol("x", 2))
	usedAre(t, l, "a", "b", "x")
	tableIs(t, l[:1], constSymbol("a", 0, 1))
	tableFails(t, "a beginning that is wrong", fault(api.ErrName, 0, 0), l[1:4]...)
	tableFails(t, "more than it", fault(api.ErrName, 0, 0), l[:7]...)
	tableFails(t, "more than may be", fault(api.ErrArg, 0, 0), l[:8]...)
	usedFails(t, "more than may be", l[:8]...)
	if !reflect.DeepEqual(whole(reflect.ValueOf(l)).Interface(), held) {
		t.Errorf("what was handed in is changed: %s", short(l))
	}
	symbols := symbols()
	before := slices.Clone(symbols)
	names.Env(symbols[:5]...)
	names.Look(symbols[:5], "x")
	if !slices.Equal(symbols, before) {
		t.Errorf("what was handed in is changed: %v", symbols)
	}
}

// One list may stand in several places.
func TestListsInSeveralPlaces(t *testing.T) {
	l := []api.Expr{name("a"), neg(name("b")), name("b")}
	x := api.Expr{Kind: api.EAdd, L: l[:2]}
	x = api.Expr{Kind: api.EMul, L: []api.Expr{x, x}}
	parts := []api.Shape{rows(l, l[:1], l[1:], l), of(api.SLocal, l...)}
	s := api.Shape{Kind: api.SJoin, Parts: []api.Shape{{Kind: api.SJoin, Parts: parts}, {Kind: api.SProduct, Parts: parts}}}
	made := []api.Item{constant("a", num(7)), constant("b", num(2)), constant("c", x), domains(x), code("x", s), code("y", s), listed(l...), use("x")}
	tableIs(t, made, constSymbol("a", 0, 7), constSymbol("b", 1, 2), constSymbol("c", 2, 25), codeSymbol("x", 4), codeSymbol("y", 5))
	usedAre(t, made, "a", "b", "x")
}

// Errors of all kinds, again and again, leave no trace in what comes behind
// them.
func TestErrorsChangeNothing(t *testing.T) {
	for range 3 {
		textFails(t, "const a = 1; const b = c;", api.ErrName, 1, 24)
		textFails(t, "const a = 1; use a;", api.ErrKind, 1, 14)
		textFails(t, "const a = 1; const b = a / 0;", api.ErrZero, 1, 26)
		textFails(t, "const a = 1; const b = 2147483647 + a;", api.ErrOver, 1, 35)
		textFails(t, "code x = reed(1, 1); code x = x;", api.ErrTwice, 1, 22)
		tableFails(t, "no kind", fault(api.ErrArg, 0, 0), api.Item{})
		usedFails(t, "no kind", use("x"), api.Item{})
		textFails(t, "const b = a;", api.ErrName, 1, 11)
		tableOf(t, "const a = 1; code x = reed(a, 1);", constSymbol("a", 0, 1), codeSymbol("x", 1))
		usedOf(t, "const a = b;", "b")
	}
}
