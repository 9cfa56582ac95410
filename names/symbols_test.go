package names_test

import (
	"fmt"
	"math"
	"slices"
	"strings"
	"testing"

	"recoup/api"
	"recoup/names"
)

// P13.2

func lookIs(t *testing.T, l []api.Symbol, text string, want api.Symbol) {
	t.Helper()
	if got, ok := names.Look(l, text); got != want || !ok {
		t.Errorf("Look(%s, %q) = %v, %v; want %v", short(l), text, got, ok, want)
	}
}

func lookFails(t *testing.T, l []api.Symbol, text string) {
	t.Helper()
	if got, ok := names.Look(l, text); got != (api.Symbol{}) || ok {
		t.Errorf("Look(%s, %q) = %v, %v; want none", short(l), text, got, ok)
	}
}

func envIs(t *testing.T, l []api.Symbol, want ...api.Const) {
	t.Helper()
	if got := names.Env(l...); !slices.Equal(got, want) {
		t.Errorf("Env(%s) = %v; want %v", short(l), got, want)
	}
}

// symbols are ones that no description makes: names twice and no names, kinds
// of no kind, items and numbers of any size.
func symbols() []api.Symbol {
	return []api.Symbol{
		{Name: "a", Kind: api.KCode, Item: 7},
		{Name: "b", Kind: api.KConst, N: 3},
		{Name: "a", Kind: api.KConst, N: 4},
		{},
		{Name: "c", Item: -5, N: 6},
		{Name: "d", Kind: api.KCode + 1, Item: 1, N: 7},
		{Name: "use", Kind: api.KConst, Item: 2, N: math.MaxInt},
		{Kind: api.KConst, Item: math.MinInt, N: math.MinInt},
		{Name: "b", Kind: api.KConst, Item: 3, N: 3},
		{Name: "b", Kind: api.KCode, Item: 3, N: 8},
		{Name: "e", Kind: 255, N: 9},
		{Name: "\xff \x00", Kind: api.KConst, Item: 8, N: -1},
		{Name: strings.Repeat("q", 1000), Kind: api.KCode, Item: 9, N: 10},
		{Name: "x", Kind: api.KCode, N: 11},
	}
}

func TestLookInTables(t *testing.T) {
	lookFails(t, nil, "a")
	lookFails(t, []api.Symbol{}, "")
	lookIs(t, []api.Symbol{constSymbol("a", 0, 2)}, "a", constSymbol("a", 0, 2))
	lookIs(t, []api.Symbol{codeSymbol("x", 5)}, "x", codeSymbol("x", 5))
	table, _ := names.Table(read(t, "const a = 2; const b = a * a; code x = reed(b, a); code ab = x; use x;")...)
	for _, s := range []api.Symbol{constSymbol("a", 0, 2), constSymbol("b", 1, 4), codeSymbol("x", 2), codeSymbol("ab", 3)} {
		lookIs(t, table, s.Name, s)
	}
	for _, text := range []string{"c", "", "aa", "A", "a ", " a", "ba", "abc", "use", "a\x00", "xx"} {
		lookFails(t, table, text)
	}
}

func TestLookInAnyLists(t *testing.T) {
	l := symbols()
	for i, s := range l {
		want := l[slices.IndexFunc(l, func(other api.Symbol) bool { return other.Name == s.Name })]
		lookIs(t, l, s.Name, want)
		lookIs(t, l[i:], s.Name, s)
		lookIs(t, l[i:i+1], s.Name, s)
	}
	lookIs(t, l, "a", l[0])
	lookIs(t, l[1:], "a", l[2])
	lookFails(t, l[3:], "a")
	lookIs(t, l, "", api.Symbol{})
	lookIs(t, l[4:], "", l[7])
	lookFails(t, l, "z")
	// What lies behind the end of a list is no part of it.
	lookFails(t, l[:13], "x")
	lookFails(t, l[:0], "a")
}

func TestEnvOfTables(t *testing.T) {
	envIs(t, nil)
	envIs(t, []api.Symbol{})
	envIs(t, []api.Symbol{codeSymbol("x", 0)})
	envIs(t, []api.Symbol{constSymbol("a", 4, 2)}, api.Const{Name: "a", N: 2})
	table, _ := names.Table(read(t, "const z = 2; code x = reed(1, 1); const b = - z; code y = x; const a = 0;")...)
	envIs(t, table, api.Const{Name: "z", N: 2}, api.Const{Name: "b", N: -2}, api.Const{Name: "a", N: 0})
}

func TestEnvOfAnyLists(t *testing.T) {
	envIs(t, symbols(),
		api.Const{Name: "b", N: 3}, api.Const{Name: "a", N: 4}, api.Const{Name: "use", N: math.MaxInt},
		api.Const{N: math.MinInt}, api.Const{Name: "b", N: 3}, api.Const{Name: "\xff \x00", N: -1})
	envIs(t, symbols()[:1])
	envIs(t, symbols()[:2], api.Const{Name: "b", N: 3})
	for kind := range 256 {
		l := []api.Symbol{{Name: "a", Kind: api.SymbolKind(kind), Item: 3, N: 4}}
		if api.SymbolKind(kind) == api.KConst {
			envIs(t, l, api.Const{Name: "a", N: 4})
		} else {
			envIs(t, l)
		}
	}
}

func TestSymbolsOfVeryManyNames(t *testing.T) {
	var l []api.Symbol
	var want []api.Const
	for i := range 20000 {
		l = append(l, api.Symbol{Name: fmt.Sprint("n", i/2), Kind: api.KConst + api.SymbolKind(i%3), Item: i, N: -i})
		if i%3 == 0 {
			want = append(want, api.Const{Name: fmt.Sprint("n", i/2), N: -i})
		}
	}
	envIs(t, l, want...)
	for i := 0; i < len(l); i += 999 {
		lookIs(t, l, l[i].Name, l[i/2*2])
	}
	lookFails(t, l, "n")
	lookFails(t, l, "n10000")
}
