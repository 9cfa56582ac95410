package names_test

import (
	"math"
	"slices"
	"strings"
	"testing"

	"recoup/api"
	"recoup/names"
	"recoup/number"
	"recoup/tree"
)

// P13.4, and all promises together.

// tabled does something with descriptions that have a table, and with it.
func tabled(t *testing.T, do func(text string, l []api.Item, table []api.Symbol)) {
	t.Helper()
	count := 0
	for seed := range 6000 {
		text := anyText(seed, 60)
		l := read(t, text)
		if table, f := names.Table(l...); f == (api.Fault{}) {
			do(text, l, table)
			count += min(len(table), 1)
		}
	}
	if count < 2000 {
		t.Errorf("%d descriptions alone have something in their table", count)
	}
}

func TestWhatIsUsedStandsInTheTable(t *testing.T) {
	tabled(t, func(text string, l []api.Item, table []api.Symbol) {
		used, e := names.Used(l...)
		if e != api.OK {
			t.Errorf("Used(%s): %v", text, e)
		}
		for _, u := range used {
			if s, ok := names.Look(table, u); !ok || s.Name != u {
				t.Errorf("the table of %s has no %s", text, u)
			}
		}
		for _, s := range spots(t, text) {
			if made, _ := names.Look(table, s.name); made.Kind != s.asks || made.Item >= s.item {
				t.Errorf("%s of %s was not made ahead, as it asks", s.name, text)
			}
		}
	})
}

func TestNoNameStandsTwice(t *testing.T) {
	tabled(t, func(text string, l []api.Item, table []api.Symbol) {
		for i, s := range table {
			if first, _ := names.Look(table, s.Name); first != s {
				t.Errorf("%s stands in the table of %s twice", s.Name, text)
			}
			if i > 0 && s.Item <= table[i-1].Item {
				t.Errorf("the items of the table of %s do not rise", text)
			}
			if l[s.Item].Name != s.Name || s.Kind == api.KCode && s.N != 0 {
				t.Errorf("%v is not what %s makes", s, text)
			}
		}
	})
}

// There is a symbol for each item that makes a name, and its number is what
// the Value comes to with all constants of the table.
func TestSymbolsAreWhatItemsMake(t *testing.T) {
	tabled(t, func(text string, l []api.Item, table []api.Symbol) {
		made := 0
		env := names.Env(table...)
		for i, item := range l {
			s, ok := names.Look(table, item.Name)
			switch item.Kind {
			case api.IConst:
				made++
				n, f := number.Eval(item.Value, env...)
				if !ok || s != constSymbol(item.Name, i, n) || f != (api.Fault{}) {
					t.Errorf("%v of %s; want %d", s, text, n)
				}
			case api.ICode:
				made++
				if !ok || s != codeSymbol(item.Name, i) {
					t.Errorf("%v of %s", s, text)
				}
			}
		}
		if made != len(table) {
			t.Errorf("the table of %s has %d symbols; want %d", text, len(table), made)
		}
	})
}

func TestBeginningsOfTables(t *testing.T) {
	tabled(t, func(text string, l []api.Item, table []api.Symbol) {
		for end := range len(l) + 1 {
			var want []api.Symbol
			for _, s := range table {
				if s.Item < end {
					want = append(want, s)
				}
			}
			tableIs(t, l[:end], want...)
		}
	})
}

// A fault stays, whatever comes behind its item; up to there is a table.
func TestBeginningsOfWhatHasNoTable(t *testing.T) {
	for seed := range 2000 {
		l := read(t, anyText(seed, 5))
		_, want := names.Table(l...)
		met := api.Fault{}
		for end := range len(l) + 1 {
			_, f := names.Table(l[:end]...)
			if met != (api.Fault{}) && f != met {
				t.Errorf("Table(%s): %v; want %v", short(l[:end]), f, met)
			}
			met = f
		}
		if met != want {
			t.Errorf("Table(%s): %v; want %v", short(l), met, want)
		}
	}
}

// An item behind it that makes nothing leaves the table as it is, if it uses
// what was made as it asks.
func TestFurtherItems(t *testing.T) {
	tabled(t, func(text string, l []api.Item, table []api.Symbol) {
		further := func(pattern, used string) []api.Item {
			return append(slices.Clone(l), read(t, strings.ReplaceAll(pattern, "?", used))...)
		}
		for _, pattern := range []string{"place row;", "place spread;", "domains 1 / 0;", "place list [3, 4];"} {
			tableIs(t, further(pattern, ""), table...)
		}
		for _, pattern := range []string{"domains ?;", "tolerate 3 - ?;", "place spiral ? * ?;", "place list [1, - ?];", "use ?;"} {
			asks, col := api.KConst, strings.Index(pattern, "?")+1
			if pattern == "use ?;" {
				asks, col = api.KCode, 1
			}
			tableFails(t, text+pattern, fault(api.ErrName, 1, col), further(pattern, "none")...)
			for _, made := range table {
				if made.Kind == asks {
					tableIs(t, further(pattern, made.Name), table...)
				} else {
					tableFails(t, text+pattern, fault(api.ErrKind, 1, col), further(pattern, made.Name)...)
				}
			}
		}
	})
}

// An item behind it that makes something has one more symbol, or makes a name
// twice.
func TestFurtherSymbols(t *testing.T) {
	tabled(t, func(text string, l []api.Item, table []api.Symbol) {
		tableIs(t, append(slices.Clone(l), constant("new", num(3))), append(slices.Clone(table), constSymbol("new", len(l), 3))...)
		tableIs(t, append(slices.Clone(l), code("new", reed())), append(slices.Clone(table), codeSymbol("new", len(l)))...)
		for _, made := range table {
			for _, again := range []api.Item{constant(made.Name, num(1)), code(made.Name, reed())} {
				tableFails(t, text, fault(api.ErrTwice, 8, 9), append(slices.Clone(l), atItem(again, 8, 9))...)
			}
		}
	})
}

// Places change nothing but those of faults.
func TestPlacesChangeNoTable(t *testing.T) {
	for seed := range 3000 {
		l := read(t, anyText(seed, 12))
		bare, _ := tree.Strip(l...)
		want, wf := names.Table(l...)
		got, f := names.Table(bare...)
		if !slices.Equal(got, want) || f != fault(wf.Code, 0, 0) {
			t.Errorf("Table = %v, %v; want %v, %v", got, f, want, wf)
		}
		used, _ := names.Used(l...)
		usedAre(t, bare, used...)
	}
}

// No call panics, whatever it is given.
func TestAnythingAtAll(t *testing.T) {
	loop, parts := make([]api.Expr, 2), make([]api.Shape, 2)
	for _, n := range []int{0, 1, -1, math.MaxInt, math.MinInt} {
		for kind := range 12 {
			for _, l := range [][]api.Expr{nil, {}, loop, loop[:1], make([]api.Expr, 3), {num(1), name("b")}} {
				for _, text := range []string{"", "a", "use", "\xff\x00"} {
					x := api.Expr{Kind: api.ExprKind(kind), N: n, Name: text, L: l, Line: n, Col: n}
					s := api.Shape{Kind: api.ShapeKind(kind), Name: text, Args: l, Parts: parts[:max(0, min(2, n))], Rows: [][]api.Expr{l, nil}[:max(0, min(2, n))], Line: n}
					loop[0], loop[1], parts[0], parts[1] = x, x, s, s
					for _, item := range []api.Item{
						{Kind: api.ItemKind(kind), Name: text, Value: x, Shape: s, Place: api.PlaceKind(kind), List: l, Col: n},
						constant(text, x), code(text, s), domains(x), listed(l...), spiral(x), use(text),
					} {
						_, f := names.Table(item, item)
						_, e := names.Used(item, item)
						if may := tree.May(item); (e == api.ErrArg) == may || (f == fault(api.ErrArg, 0, 0)) == may {
							t.Errorf("the kind %d with %d and %q: %v, %v", kind, n, text, f, e)
						}
					}
					symbol := api.Symbol{Name: text, Kind: api.SymbolKind(kind), Item: n, N: n}
					lookIs(t, []api.Symbol{symbol, symbol}, text, symbol)
					names.Env(symbol, symbol)
				}
			}
		}
	}
}
