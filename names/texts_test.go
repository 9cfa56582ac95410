package names_test

import (
	"fmt"
	"slices"
	"strings"
	"testing"

	"recoup/api"
	"recoup/names"
	"recoup/number"
	"recoup/parse"
	"recoup/token"
)

// What the package must tell is found out here in another way: names are found
// among the tokens of a text, not in a tree, and what they ask for is known by
// the word ahead of the innermost bracket in which they stand.

// source tells numbers by a simple rule that differs from seed to seed.
type source struct {
	state uint64
}

func seeded(seed int) *source {
	return &source{uint64(seed)*0x9e3779b97f4a7c15 + 12345}
}

func (s *source) word() uint64 {
	s.state = s.state*6364136223846793005 + 1442695040888963407
	return s.state ^ s.state>>32
}

// below is a number from 0 to ahead of n.
func (s *source) below(n int) int {
	return int(s.word() >> 1 % uint64(n))
}

func one[T any](s *source, list []T) T {
	return list[s.below(len(list))]
}

// writer writes descriptions whose names are mostly made ahead, as the kind
// that is asked for; one of so many is any name.
type writer struct {
	*source
	consts, codes []string
	wrong         int
}

var pool = []string{"a", "b", "ab", "a0", "n1", "z", "x", "y", "xy", "x9", "uses", "abcdefghijklmnop"}

func (w *writer) name(right []string) string {
	if len(right) == 0 || w.below(w.wrong) == 0 {
		return one(w.source, pool)
	}
	return one(w.source, right)
}

func (w *writer) expr(deep int) string {
	switch {
	case deep > 1 && w.below(5) == 0:
		return "- " + w.expr(deep-1)
	case deep > 1 && w.below(2) == 0:
		return "( " + w.expr(deep-1) + " " + one(w.source, []string{"+", "-", "*", "/", "%"}) + " " + w.expr(deep-1) + " )"
	case len(w.consts) > 0 && w.below(3) > 0:
		return w.name(w.consts)
	case w.below(w.wrong) == 0:
		return one(w.source, []string{"0", "2147483647"})
	}
	return fmt.Sprint(1 + w.below(90))
}

func (w *writer) row(count, deep int) string {
	l := make([]string, count)
	for i := range l {
		l[i] = w.expr(deep)
	}
	return strings.Join(l, " , ")
}

func (w *writer) shape(deep int) string {
	kind := w.below(9)
	switch {
	case kind < 3 && deep > 1:
		return one(w.source, []string{"product", "join"}) + " ( " + w.shape(deep-1) + " , " + w.shape(deep-1) + " )"
	case kind < 5 && len(w.codes) > 0:
		return w.name(w.codes)
	case kind < 6:
		return one(w.source, []string{"reed", "cross"}) + " ( " + w.row(2, 3) + " )"
	case kind < 7:
		return one(w.source, []string{"local", "pyramid"}) + " ( " + w.row(3, 3) + " )"
	}
	rows := make([]string, 1+w.below(3))
	for i := range rows {
		rows[i] = w.row(1+w.below(3), 2)
	}
	return "matrix [ " + strings.Join(rows, " ; ") + " ]"
}

// fresh is a name that was not made; now and then it is any name.
func (w *writer) fresh() string {
	text := one(w.source, pool)
	for w.below(w.wrong) > 0 && (slices.Contains(w.consts, text) || slices.Contains(w.codes, text)) {
		text = one(w.source, pool)
	}
	return text
}

func (w *writer) item() string {
	full := len(w.consts)+len(w.codes) >= len(pool)-2
	switch kind := w.below(12); {
	case kind < 4 && !full:
		made, text := w.fresh(), w.expr(4)
		w.consts = append(w.consts, made)
		return "const " + made + " = " + text + " ;"
	case kind < 7 && !full:
		made, text := w.fresh(), w.shape(4)
		w.codes = append(w.codes, made)
		return "code " + made + " = " + text + " ;"
	case kind == 7 && len(w.codes) > 0:
		return "use " + w.name(w.codes) + " ;"
	case kind == 8:
		return "domains " + w.expr(3) + " ;"
	case kind == 9:
		return "tolerate " + w.expr(3) + " ;"
	case kind == 10:
		return "place spiral " + w.expr(3) + " ;"
	case kind == 11:
		return "place list [ " + w.row(1+w.below(4), 3) + " ] ;"
	}
	return one(w.source, []string{"place row ;", "place spread ;"})
}

// anyText is a description's text; the smaller wrong is, the more faults there
// are in it.
func anyText(seed, wrong int) string {
	w := &writer{source: seeded(seed), wrong: wrong}
	var l []string
	for range w.below(9) {
		l = append(l, w.item())
	}
	var text strings.Builder
	for _, part := range strings.SplitAfter(strings.Join(l, " "), " ") {
		text.WriteString(part + one(w.source, []string{"", "", "", "\n", " ", " # a ;\n"}))
	}
	return text.String()
}

// read is a description by its text, its parts with their places.
func read(t *testing.T, text string) []api.Item {
	t.Helper()
	l, f := parse.Program(text)
	if f != (api.Fault{}) {
		t.Fatalf("Program(%s): %v", text, f)
	}
	return l
}

// spot is a name of an item, where a fault of it is told, and what it asks for.
type spot struct {
	item, line, col int
	name            string
	asks            api.SymbolKind
}

// spots are the names of all items of a text, in its order.
func spots(t *testing.T, text string) []spot {
	t.Helper()
	tokens, f := token.Cut(text)
	if f != (api.Fault{}) {
		t.Fatalf("Cut(%s): %v", text, f)
	}
	var made []spot
	var asks []api.SymbolKind // of the item, and of each bracket that is open
	item, first := -1, api.Token{}
	for i, at := range tokens {
		switch {
		case len(asks) == 0:
			item, first = item+1, at
			asks = []api.SymbolKind{api.KConst}
			if at.Text == "code" || at.Text == "use" {
				asks[0] = api.KCode
			}
		case at.Text == "(" && (tokens[i-1].Text == "product" || tokens[i-1].Text == "join"):
			asks = append(asks, api.KCode)
		case at.Text == "(" || at.Text == "[":
			asks = append(asks, api.KConst)
		case at.Text == ")" || at.Text == "]":
			asks = asks[:len(asks)-1]
		case at.Text == ";" && len(asks) == 1:
			asks = nil
		case at.Kind != api.TName || tokens[i-1].Text == "const" || tokens[i-1].Text == "code":
		case first.Text == "use":
			made = append(made, spot{item, first.Line, first.Col, at.Text, api.KCode})
		default:
			made = append(made, spot{item, at.Line, at.Col, at.Text, asks[len(asks)-1]})
		}
	}
	return made
}

// slowTable is the table of a text, by its spots.
func slowTable(t *testing.T, text string) ([]api.Symbol, api.Fault) {
	t.Helper()
	var table []api.Symbol
	var env []api.Const
	known := func(text string) int {
		return slices.IndexFunc(table, func(s api.Symbol) bool { return s.Name == text })
	}
	all := spots(t, text)
	for i, item := range read(t, text) {
		for _, s := range all {
			switch place := known(s.name); {
			case s.item != i:
			case place < 0:
				return nil, fault(api.ErrName, s.line, s.col)
			case table[place].Kind != s.asks:
				return nil, fault(api.ErrKind, s.line, s.col)
			}
		}
		if item.Kind != api.IConst && item.Kind != api.ICode {
			continue
		}
		made := api.Symbol{Name: item.Name, Kind: api.KCode, Item: i}
		if item.Kind == api.IConst {
			n, f := number.Eval(item.Value, env...)
			if f != (api.Fault{}) {
				return nil, f
			}
			made.Kind, made.N = api.KConst, n
			env = append(env, api.Const{Name: item.Name, N: n})
		}
		if known(item.Name) >= 0 {
			return nil, fault(api.ErrTwice, item.Line, item.Col)
		}
		table = append(table, made)
	}
	return table, api.Fault{}
}

// slowUsed are the names of a text, by its spots.
func slowUsed(t *testing.T, text string) []string {
	t.Helper()
	var made []string
	for _, s := range spots(t, text) {
		made = append(made, s.name)
	}
	slices.Sort(made)
	return slices.Compact(made)
}

// Trees made by hand.

func num(n int) api.Expr        { return api.Expr{Kind: api.ENumber, N: n} }
func name(text string) api.Expr { return api.Expr{Kind: api.EName, Name: text} }
func neg(x api.Expr) api.Expr   { return api.Expr{Kind: api.ENegate, L: []api.Expr{x}} }

func two(kind api.ExprKind, a, b api.Expr) api.Expr {
	return api.Expr{Kind: kind, L: []api.Expr{a, b}}
}

func shaped(text string) api.Shape { return api.Shape{Kind: api.SName, Name: text} }

func of(kind api.ShapeKind, args ...api.Expr) api.Shape {
	return api.Shape{Kind: kind, Args: args}
}

func both(kind api.ShapeKind, a, b api.Shape) api.Shape {
	return api.Shape{Kind: kind, Parts: []api.Shape{a, b}}
}

func rows(l ...[]api.Expr) api.Shape { return api.Shape{Kind: api.SMatrix, Rows: l} }

func constant(text string, x api.Expr) api.Item {
	return api.Item{Kind: api.IConst, Name: text, Value: x}
}

func code(text string, s api.Shape) api.Item {
	return api.Item{Kind: api.ICode, Name: text, Shape: s}
}

func use(text string) api.Item      { return api.Item{Kind: api.IUse, Name: text} }
func domains(x api.Expr) api.Item   { return api.Item{Kind: api.IDomains, Value: x} }
func tolerate(x api.Expr) api.Item  { return api.Item{Kind: api.ITolerate, Value: x} }
func spiral(x api.Expr) api.Item    { return api.Item{Kind: api.IPlace, Place: api.PSpiral, Value: x} }
func listed(l ...api.Expr) api.Item { return api.Item{Kind: api.IPlace, Place: api.PList, List: l} }
func placeRow() api.Item            { return api.Item{Kind: api.IPlace, Place: api.PRow} }

// reed is a code that has no names.
func reed() api.Shape { return of(api.SReed, num(1), num(1)) }

// at is an expression, atShape a shape, atItem an item that stands there.
func at(x api.Expr, line, col int) api.Expr {
	x.Line, x.Col = line, col
	return x
}

func atShape(s api.Shape, line, col int) api.Shape {
	s.Line, s.Col = line, col
	return s
}

func atItem(t api.Item, line, col int) api.Item {
	t.Line, t.Col = line, col
	return t
}

// nested is an expression so deep, with the given one as its innermost part.
func nested(deep int, x api.Expr) api.Expr {
	for i := range deep - 1 {
		switch i % 3 {
		case 0:
			x = neg(x)
		case 1:
			x = two(api.EAdd, x, num(2))
		case 2:
			x = two(api.ESub, num(3), x)
		}
	}
	return x
}

// nestedShape is a shape so deep, with the given one as its innermost part.
func nestedShape(deep int, s api.Shape) api.Shape {
	for i := range deep - 1 {
		if i%2 == 0 {
			s = both(api.SProduct, s, reed())
		} else {
			s = both(api.SJoin, reed(), s)
		}
	}
	return s
}

// full is an expression of two parts, each of two parts, and so on, so deep,
// with copies of the given one at its ends.
func full(deep int, end api.Expr) api.Expr {
	if deep == 1 {
		return end
	}
	return two(api.EAdd, full(deep-1, end), full(deep-1, end))
}

// wrongItems may not be; some of them have no end.
func wrongItems() map[string]api.Item {
	made := map[string]api.Item{
		"no kind":                     {},
		"no kind with a name":         {Name: "a"},
		"a kind behind the last":      {Kind: api.ITolerate + 1, Value: num(1)},
		"a const without a name":      constant("", num(1)),
		"a const that is a word":      constant("use", num(1)),
		"a const without a value":     {Kind: api.IConst, Name: "q"},
		"a const of a wrong number":   constant("q", num(-1)),
		"a const of a word":           constant("q", name("code")),
		"a const with a shape":        {Kind: api.IConst, Name: "q", Value: num(1), Shape: reed()},
		"a const too deep":            constant("q", nested(api.MaxNest+1, num(1))),
		"a const of too many parts":   constant("q", full(14, num(1))),
		"a code without a shape":      {Kind: api.ICode, Name: "q"},
		"a code too deep":             code("q", nestedShape(api.MaxNest+1, reed())),
		"a code of a word":            code("q", shaped("reed")),
		"a code of no rows":           code("q", rows()),
		"a code of an empty row":      code("q", rows([]api.Expr{num(1)}, nil)),
		"a code of one number":        code("q", of(api.SReed, num(1))),
		"a code of no kind inside":    code("q", both(api.SJoin, reed(), api.Shape{})),
		"a use without a name":        use(""),
		"a use with a great letter":   use("X"),
		"a use with a value":          {Kind: api.IUse, Name: "x", Value: num(1)},
		"a use with a value's place":  {Kind: api.IUse, Name: "x", Value: api.Expr{Line: 1}},
		"a use of too long a name":    use("abcdefghijklmnopq"),
		"domains without a number":    {Kind: api.IDomains},
		"domains with a name":         {Kind: api.IDomains, Name: "q", Value: num(1)},
		"tolerate of no kind":         tolerate(api.Expr{Kind: api.ERest + 1}),
		"a place of no kind":          {Kind: api.IPlace},
		"a place of a kind too great": {Kind: api.IPlace, Place: api.PList + 1},
		"a list of none":              listed(),
		"a list of too many":          listed(slices.Repeat([]api.Expr{num(1)}, api.MaxSide+1)...),
		"a row with a number":         {Kind: api.IPlace, Place: api.PRow, Value: num(1)},
	}
	loop, fork := make([]api.Expr, 1), make([]api.Expr, 2)
	loop[0] = api.Expr{Kind: api.ENegate, L: loop}
	fork[0] = api.Expr{Kind: api.EMul, L: fork}
	fork[1] = fork[0]
	parts := make([]api.Shape, 2)
	parts[0] = api.Shape{Kind: api.SProduct, Parts: parts}
	parts[1] = parts[0]
	made["a const of itself"], made["a place of itself"] = constant("q", loop[0]), listed(fork...)
	made["a code of itself"] = code("q", parts[0])
	return made
}

// short keeps what a test tells readable.
func short(x any) string {
	text := fmt.Sprintf("%+v", x)
	if len(text) > 300 {
		return text[:300] + " .."
	}
	return text
}

func fault(e api.Errno, line, col int) api.Fault {
	return api.Fault{Code: e, Line: line, Col: col}
}

func constSymbol(text string, item, n int) api.Symbol {
	return api.Symbol{Name: text, Kind: api.KConst, Item: item, N: n}
}

func codeSymbol(text string, item int) api.Symbol {
	return api.Symbol{Name: text, Kind: api.KCode, Item: item}
}

func tableIs(t *testing.T, l []api.Item, want ...api.Symbol) {
	t.Helper()
	if got, f := names.Table(l...); !slices.Equal(got, want) || f != (api.Fault{}) {
		t.Errorf("Table(%s) = %v, %v; want %v", short(l), short(got), f, short(want))
	}
}

func tableOf(t *testing.T, text string, want ...api.Symbol) {
	t.Helper()
	if got, f := names.Table(read(t, text)...); !slices.Equal(got, want) || f != (api.Fault{}) {
		t.Errorf("Table(%s) = %v, %v; want %v", text, short(got), f, short(want))
	}
}

// tableFails: what is told of the items is a text of the test's own, for they
// may have no end.
func tableFails(t *testing.T, what string, want api.Fault, l ...api.Item) {
	t.Helper()
	if got, f := names.Table(l...); len(got) != 0 || f != want {
		t.Errorf("Table(%s) = %v, %v; want %v", short(what), short(got), f, want)
	}
}

func textFails(t *testing.T, text string, e api.Errno, line, col int) {
	t.Helper()
	tableFails(t, text, fault(e, line, col), read(t, text)...)
}

func usedAre(t *testing.T, l []api.Item, want ...string) {
	t.Helper()
	if got, e := names.Used(l...); !slices.Equal(got, want) || e != api.OK {
		t.Errorf("Used(%s) = %s, %v; want %s", short(l), short(got), e, short(want))
	}
}

func usedFails(t *testing.T, what string, l ...api.Item) {
	t.Helper()
	if got, e := names.Used(l...); len(got) != 0 || e != api.ErrArg {
		t.Errorf("Used of %s = %s, %v; want ErrArg", what, short(got), e)
	}
}
