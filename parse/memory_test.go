package parse_test

import (
	"reflect"
	"slices"
	"strings"
	"testing"

	"recoup/api"
	"recoup/parse"
)

// Rule 5: what is answered is new memory. Rule 3: an error changes nothing.

// piece is where a list lies in memory, the room behind its end too.
type piece struct {
	from, to uintptr
}

// pieces are those of all lists in a tree.
func pieces(v reflect.Value) []piece {
	var made []piece
	switch v.Kind() {
	case reflect.Slice:
		if v.Cap() > 0 {
			from := v.Pointer()
			made = append(made, piece{from, from + uintptr(v.Cap())*v.Type().Elem().Size()})
		}
		for i := range v.Len() {
			made = append(made, pieces(v.Index(i))...)
		}
	case reflect.Struct:
		for i := range v.NumField() {
			made = append(made, pieces(v.Field(i))...)
		}
	}
	return made
}

// apart tells whether no two lists of all these trees share memory.
func apart(trees ...any) bool {
	var all []piece
	for _, x := range trees {
		all = append(all, pieces(reflect.ValueOf(x))...)
	}
	slices.SortFunc(all, func(a, b piece) int { return int(a.from) - int(b.from) })
	for i := range len(all) - 1 {
		if all[i].to > all[i+1].from {
			return false
		}
	}
	return true
}

// spoil writes over all that can be got at from a list, the room behind its
// end too.
func spoil(v reflect.Value) {
	switch v.Kind() {
	case reflect.Slice:
		v = v.Slice(0, v.Cap())
		for i := range v.Len() {
			spoil(v.Index(i))
		}
	case reflect.Struct:
		for i := range v.NumField() {
			spoil(v.Field(i))
		}
	case reflect.String:
		v.SetString("spoilt")
	case reflect.Int:
		v.SetInt(-77)
	case reflect.Uint8:
		v.SetUint(77)
	}
}

// newEachTime asks twice, spoils the first answer and asks again.
func newEachTime[T any](t *testing.T, text string, ask func(string) (T, api.Fault)) {
	t.Helper()
	first, f := ask(text)
	second, _ := ask(text)
	if f != (api.Fault{}) {
		t.Fatalf("%s: %v", brief(text), f)
	}
	if !apart(first, second) {
		t.Errorf("of %s lists share memory", brief(text))
	}
	held := deepest(first)
	spoil(reflect.ValueOf(&first).Elem())
	third, _ := ask(text)
	if !alike(second, held) || !alike(third, held) {
		t.Errorf("what is done to an answer of %s changes another", brief(text))
	}
}

// deepest is a copy of a tree, places and all, that shares nothing with it.
func deepest[T any](x T) T {
	var copied func(v reflect.Value) reflect.Value
	copied = func(v reflect.Value) reflect.Value {
		made := reflect.New(v.Type()).Elem()
		made.Set(v)
		switch v.Kind() {
		case reflect.Slice:
			made.SetZero()
			for i := range v.Len() {
				made = reflect.Append(made, copied(v.Index(i)))
			}
		case reflect.Struct:
			for i := range v.NumField() {
				made.Field(i).Set(copied(v.Field(i)))
			}
		}
		return made
	}
	return copied(reflect.ValueOf(x)).Interface().(T)
}

func TestAnswersAreNewMemory(t *testing.T) {
	for seed := range 300 {
		from := seeded(seed)
		text, _ := written(from, from.items()...)
		newEachTime(t, text, parse.Program)
		text, _ = writtenExpr(from, from.expr(6))
		newEachTime(t, text, parse.Expr)
		text, _ = writtenShape(from, from.shape(4))
		newEachTime(t, text, parse.Shape)
	}
	newEachTime(t, exprTight(most()), parse.Expr)
	newEachTime(t, "1"+strings.Repeat("+1", 15), parse.Expr)
	newEachTime(t, strings.Repeat("-", 15)+"1", parse.Expr)
	newEachTime(t, shapeTight(sized(64, 64)), parse.Shape)
	newEachTime(t, strings.Repeat("place list[1,2,3];", 64), parse.Program)
}

// Errors of all kinds, again and again, leave no trace in what comes behind
// them.
func TestErrorsChangeNothing(t *testing.T) {
	for range 3 {
		programFails(t, "use x; use", api.ErrSyntax, 1, 11)
		exprFails(t, "((1)", api.ErrSyntax, 1, 5)
		programFails(t, "use x; !", api.ErrLex, 1, 8)
		shapeFails(t, strings.Repeat("join(", 5000), api.ErrSyntax, 1, 25001)
		exprFails(t, strings.Repeat("-", 16)+"1", api.ErrLimit, 1, 1)
		programFails(t, strings.Repeat("use x;\n", 65), api.ErrLimit, 65, 1)
		programIs(t, "use x;", api.Item{Kind: api.IUse, Name: "x", Line: 1, Col: 1})
		exprIs(t, "-1", neg(num(1)))
		shapeIs(t, "x", shaped("x"))
		tidyIs(t, "use x;", "use x ;\n")
	}
}
