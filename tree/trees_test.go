package tree_test

import (
	"fmt"
	"reflect"
	"regexp"
	"slices"
	"strings"
	"testing"

	"recoup/api"
	"recoup/tree"
)

// What the package must tell is found out here in other ways: which fields a
// kind has by tables of their names, what stands in the others by going
// through them whatever they are, texts by patterns of whole texts, sameness
// by texts without a limit.

const allWords = "code const cross domains join list local matrix place product pyramid reed row spiral spread tolerate use"

var (
	exprFields = map[api.ExprKind]string{
		api.ENumber: "N", api.EName: "Name", api.ENegate: "L",
		api.EAdd: "L", api.ESub: "L", api.EMul: "L", api.EDiv: "L", api.ERest: "L",
	}
	exprTexts = map[api.ExprKind]string{
		api.ENegate: "- %s", api.EAdd: "( %s + %s )", api.ESub: "( %s - %s )",
		api.EMul: "( %s * %s )", api.EDiv: "( %s / %s )", api.ERest: "( %s %% %s )",
	}
	shapeFields = map[api.ShapeKind]string{
		api.SName: "Name", api.SReed: "Args", api.SCross: "Args", api.SLocal: "Args", api.SPyramid: "Args",
		api.SProduct: "Parts", api.SJoin: "Parts", api.SMatrix: "Rows",
	}
	shapeTexts = map[api.ShapeKind]string{
		api.SReed: "reed ( %s , %s )", api.SCross: "cross ( %s , %s )",
		api.SLocal: "local ( %s , %s , %s )", api.SPyramid: "pyramid ( %s , %s , %s )",
		api.SProduct: "product ( %s , %s )", api.SJoin: "join ( %s , %s )",
	}
	itemFields = map[api.ItemKind]string{
		api.IConst: "Name Value", api.ICode: "Name Shape", api.IUse: "Name",
		api.IDomains: "Value", api.ITolerate: "Value", api.IPlace: "Place",
	}
	placeFields = map[api.PlaceKind]string{
		api.PRow: "Place", api.PSpread: "Place", api.PSpiral: "Place Value", api.PList: "Place List",
	}
	wholeName = regexp.MustCompile(`^[a-z][a-z0-9]{0,15}$`)
)

// empty tells whether something is zero whole, a list without elements being
// so too.
func empty(v reflect.Value) bool {
	switch v.Kind() {
	case reflect.Slice:
		return v.Len() == 0
	case reflect.Struct:
		for i := range v.NumField() {
			if !empty(v.Field(i)) {
				return false
			}
		}
		return true
	}
	return v.IsZero()
}

// othersEmpty tells whether all fields are but those named, and the place.
func othersEmpty(part any, named string) bool {
	v := reflect.ValueOf(part)
	for i := range v.NumField() {
		field := v.Type().Field(i).Name
		if !slices.Contains(strings.Fields("Kind Line Col "+named), field) && !empty(v.Field(i)) {
			return false
		}
	}
	return true
}

func slowName(text string) bool {
	return wholeName.MatchString(text) && !slices.Contains(strings.Fields(allWords), text)
}

// found is what is known of a tree: how many parts it has, how deep it is, its
// text. What may not be has no parts.
type found struct {
	parts, deep int
	text        string
}

// slowExpr goes no deeper than a limit, for there may be no end.
func slowExpr(x api.Expr, nest int) found {
	fields, known := exprFields[x.Kind]
	if nest == 0 || !known || !othersEmpty(x, fields) {
		return found{}
	}
	switch x.Kind {
	case api.ENumber:
		if x.N < 0 || x.N > 2147483647 {
			return found{}
		}
		return found{1, 1, fmt.Sprint(x.N)}
	case api.EName:
		if !slowName(x.Name) {
			return found{}
		}
		return found{1, 1, x.Name}
	}
	if len(x.L) != strings.Count(exprTexts[x.Kind], "%s") {
		return found{}
	}
	return slowAll(exprTexts[x.Kind], x.L, func(part api.Expr) found { return slowExpr(part, nest-1) })
}

// slowAll is what is known of something by what is known of its parts, all of
// which may be.
func slowAll[T any](text string, l []T, look func(T) found) found {
	all := found{parts: 1, deep: 1}
	var texts []any
	for _, part := range l {
		f := look(part)
		if f.parts == 0 {
			return found{}
		}
		all.parts += f.parts
		all.deep = max(all.deep, f.deep+1)
		texts = append(texts, f.text)
	}
	all.text = fmt.Sprintf(text, texts...)
	return all
}

func wholeExpr(x api.Expr) found { return slowExpr(x, 16) }

// slowRow is a list of expressions, which is no part by itself.
func slowRow(l []api.Expr) found {
	if len(l) < 1 || len(l) > 64 {
		return found{}
	}
	f := slowAll(strings.TrimPrefix(strings.Repeat(" , %s", len(l)), " , "), l, wholeExpr)
	f.parts = max(0, f.parts-1)
	return f
}

func slowShape(s api.Shape, nest int) found {
	fields, known := shapeFields[s.Kind]
	if nest == 0 || !known || !othersEmpty(s, fields) {
		return found{}
	}
	var f found
	switch {
	case s.Kind == api.SName && slowName(s.Name):
		return found{1, 1, s.Name}
	case s.Kind == api.SMatrix && 1 <= len(s.Rows) && len(s.Rows) <= 64:
		f = slowAll("matrix [ "+strings.TrimPrefix(strings.Repeat(" ; %s", len(s.Rows)), " ; ")+" ]", s.Rows, slowRow)
	case fields == "Args" && len(s.Args) == strings.Count(shapeTexts[s.Kind], "%s"):
		f = slowAll(shapeTexts[s.Kind], s.Args, wholeExpr)
	case fields == "Parts" && len(s.Parts) == 2:
		return slowAll(shapeTexts[s.Kind], s.Parts, func(part api.Shape) found { return slowShape(part, nest-1) })
	}
	f.deep = min(f.deep, 1)
	return f
}

func wholeShape(s api.Shape) found { return slowShape(s, 16) }

func slowItem(t api.Item) found {
	fields, known := itemFields[t.Kind]
	if t.Kind == api.IPlace {
		fields, known = placeFields[t.Place]
	}
	if !known || !othersEmpty(t, fields) || strings.Contains(fields, "Name") && !slowName(t.Name) {
		return found{}
	}
	values, shapes := []api.Expr{t.Value}, []api.Shape{t.Shape}
	switch t.Kind {
	case api.IConst:
		return slowAll("const "+t.Name+" = %s ;\n", values, wholeExpr)
	case api.ICode:
		return slowAll("code "+t.Name+" = %s ;\n", shapes, wholeShape)
	case api.IUse:
		return found{parts: 1, text: "use " + t.Name + " ;\n"}
	case api.IDomains:
		return slowAll("domains %s ;\n", values, wholeExpr)
	case api.ITolerate:
		return slowAll("tolerate %s ;\n", values, wholeExpr)
	}
	switch t.Place {
	case api.PRow:
		return found{parts: 1, text: "place row ;\n"}
	case api.PSpread:
		return found{parts: 1, text: "place spread ;\n"}
	case api.PSpiral:
		return slowAll("place spiral %s ;\n", values, wholeExpr)
	}
	return slowAll("place list [ %s ] ;\n", [][]api.Expr{t.List}, slowRow)
}

// slowItems is what is known of a description, and whether it may be.
func slowItems(l []api.Item) (found, bool) {
	f := slowAll(strings.Repeat("%s", len(l)), l, slowItem)
	return f, f.parts >= 1 && f.parts-1 <= 8192 && len(l) <= 64
}

// source tells numbers by a simple rule that differs from seed to seed.
type source struct {
	state uint64
}

func seeded(seed int) *source {
	return &source{uint64(seed)*0x9e3779b97f4a7c15 + 12345}
}

func (s *source) word() uint64 {
	s.state = s.state*6364136223846793005 + 1442695040888963407
	return s.state ^ s.state>>32
}

// below is a number from 0 to ahead of n.
func (s *source) below(n int) int {
	return int(s.word() >> 1 % uint64(n))
}

func one[T any](s *source, list []T) T {
	return list[s.below(len(list))]
}

func num(n int) api.Expr        { return api.Expr{Kind: api.ENumber, N: n} }
func name(text string) api.Expr { return api.Expr{Kind: api.EName, Name: text} }
func neg(x api.Expr) api.Expr   { return api.Expr{Kind: api.ENegate, L: []api.Expr{x}} }

func two(kind api.ExprKind, a, b api.Expr) api.Expr {
	return api.Expr{Kind: kind, L: []api.Expr{a, b}}
}

func shaped(text string) api.Shape { return api.Shape{Kind: api.SName, Name: text} }

func of(kind api.ShapeKind, args ...api.Expr) api.Shape {
	return api.Shape{Kind: kind, Args: args}
}

func both(kind api.ShapeKind, a, b api.Shape) api.Shape {
	return api.Shape{Kind: kind, Parts: []api.Shape{a, b}}
}

// table is a matrix of so many rows and columns, all of one expression.
func table(rows, cols int, x api.Expr) api.Shape {
	s := api.Shape{Kind: api.SMatrix, Rows: make([][]api.Expr, rows)}
	for i := range s.Rows {
		s.Rows[i] = slices.Repeat([]api.Expr{x}, cols)
	}
	return s
}

func constant(text string, x api.Expr) api.Item {
	return api.Item{Kind: api.IConst, Name: text, Value: x}
}

func code(text string, s api.Shape) api.Item {
	return api.Item{Kind: api.ICode, Name: text, Shape: s}
}

func use(text string) api.Item      { return api.Item{Kind: api.IUse, Name: text} }
func domains(x api.Expr) api.Item   { return api.Item{Kind: api.IDomains, Value: x} }
func tolerate(x api.Expr) api.Item  { return api.Item{Kind: api.ITolerate, Value: x} }
func spiral(x api.Expr) api.Item    { return api.Item{Kind: api.IPlace, Place: api.PSpiral, Value: x} }
func listed(l ...api.Expr) api.Item { return api.Item{Kind: api.IPlace, Place: api.PList, List: l} }
func row() api.Item                 { return api.Item{Kind: api.IPlace, Place: api.PRow} }
func spread() api.Item              { return api.Item{Kind: api.IPlace, Place: api.PSpread} }

// exprs are ones of each kind.
func exprs() []api.Expr {
	made := []api.Expr{num(0), num(1), num(api.MaxNumber), name("a"), name("abcdefghijklmnop"), name("reeds"), neg(num(5)), neg(neg(name("b")))}
	for kind := api.EAdd; kind <= api.ERest; kind++ {
		made = append(made, two(kind, num(7), name("c")), two(kind, two(kind, num(1), num(2)), neg(num(3))))
	}
	return made
}

// shapes are ones of each kind.
func shapes() []api.Shape {
	return []api.Shape{
		shaped("x"), of(api.SReed, num(4), num(2)), of(api.SCross, name("a"), neg(num(1))),
		of(api.SLocal, num(4), num(2), num(0)), of(api.SPyramid, num(1), num(2), two(api.EMul, num(3), num(4))),
		both(api.SProduct, shaped("x"), of(api.SReed, num(1), num(1))), both(api.SJoin, both(api.SJoin, shaped("x"), shaped("y")), table(2, 2, num(1))),
		table(1, 1, num(0)), {Kind: api.SMatrix, Rows: [][]api.Expr{{num(1), num(0)}, {num(0), num(1)}}}, {Kind: api.SMatrix, Rows: [][]api.Expr{{num(1)}, {num(2), name("a"), num(3)}}},
	}
}

// items are ones of each kind, and of each kind of place.
func items() []api.Item {
	made := []api.Item{use("x"), use("abcdefghijklmnop"), row(), spread(), spiral(num(2)), listed(num(0)), listed(num(0), name("a"), neg(num(1)))}
	for _, x := range exprs() {
		made = append(made, constant("a", x), domains(x), tolerate(x))
	}
	for _, s := range shapes() {
		made = append(made, code("x", s))
	}
	return made
}

// nested is an expression so deep.
func nested(deep int) api.Expr {
	x := num(1)
	for i := range deep - 1 {
		switch i % 3 {
		case 0:
			x = neg(x)
		case 1:
			x = two(api.EAdd, x, num(2))
		case 2:
			x = two(api.ESub, num(3), x)
		}
	}
	return x
}

// nestedShape is a shape so deep.
func nestedShape(deep int) api.Shape {
	s := shaped("x")
	for i := range deep - 1 {
		if i%2 == 0 {
			s = both(api.SProduct, s, shaped("y"))
		} else {
			s = both(api.SJoin, shaped("z"), s)
		}
	}
	return s
}

// full is an expression of two parts, each of two parts, and so on, so deep,
// with the expressions of a list at its ends in turn.
func full(deep int, ends ...api.Expr) api.Expr {
	at := 0
	var grow func(deep int) api.Expr
	grow = func(deep int) api.Expr {
		if deep == 1 {
			at++
			return ends[(at-1)%len(ends)]
		}
		return two(api.EAdd, grow(deep-1), grow(deep-1))
	}
	return grow(deep)
}

// long are so many names that have so many bytes in all.
func long(count, size int) []api.Expr {
	made := make([]api.Expr, count)
	for i := range made {
		each := size / (count - i)
		made[i] = name(strings.Repeat("q", each))
		size -= each
	}
	return made
}

// crowded are copies of a struct with one field more that has something in it.
func crowded(part any, named string, with []any) []any {
	var made []any
	v := reflect.ValueOf(part)
	for i := range v.NumField() {
		if slices.Contains(strings.Fields("Kind Line Col "+named), v.Type().Field(i).Name) {
			continue
		}
		for _, x := range with {
			if reflect.TypeOf(x) == v.Field(i).Type() {
				more := reflect.New(v.Type()).Elem()
				more.Set(v)
				more.Field(i).Set(reflect.ValueOf(x))
				made = append(made, more.Interface())
			}
		}
	}
	return made
}

// visit does something to each struct in a tree, from the outside to the
// inside.
func visit(v reflect.Value, do func(part reflect.Value)) {
	switch v.Kind() {
	case reflect.Slice:
		for i := range v.Len() {
			visit(v.Index(i), do)
		}
	case reflect.Struct:
		do(v)
		for i := range v.NumField() {
			visit(v.Field(i), do)
		}
	}
}

// copied is a tree that shares nothing with what it was made of, its empty
// lists kept as they are.
func copied[T any](x T) T {
	made := deepCopy(reflect.ValueOf(x))
	return made.Interface().(T)
}

func deepCopy(v reflect.Value) reflect.Value {
	made := reflect.New(v.Type()).Elem()
	switch v.Kind() {
	case reflect.Slice:
		if v.IsNil() {
			return made
		}
		made = reflect.MakeSlice(v.Type(), v.Len(), v.Len())
		for i := range v.Len() {
			made.Index(i).Set(deepCopy(v.Index(i)))
		}
	case reflect.Struct:
		for i := range v.NumField() {
			made.Field(i).Set(deepCopy(v.Field(i)))
		}
	default:
		made.Set(v)
	}
	return made
}

// placed is a copy of a tree, all parts of which (those in fields that a kind
// does not name left out) stand at places that differ.
func placed[T any](x T, from int) T {
	made := copied(x)
	visit(reflect.ValueOf(&made).Elem(), func(part reflect.Value) {
		if part.FieldByName("Kind").Uint() == 0 {
			return
		}
		from++
		part.FieldByName("Line").SetInt(int64(from))
		part.FieldByName("Col").SetInt(int64(-3 * from))
	})
	return made
}

// nowhere is a copy of a tree with all places 0.
func nowhere[T any](x T) T {
	made := copied(x)
	visit(reflect.ValueOf(&made).Elem(), func(part reflect.Value) {
		part.FieldByName("Line").SetInt(0)
		part.FieldByName("Col").SetInt(0)
	})
	return made
}

// piece is where a list lies in memory, the room behind its end too.
type piece struct {
	from, to uintptr
}

// pieces are those of all lists in a tree.
func pieces(x any) []piece {
	var made []piece
	var gather func(v reflect.Value)
	gather = func(v reflect.Value) {
		switch v.Kind() {
		case reflect.Slice:
			if v.Cap() > 0 {
				from := v.Pointer()
				made = append(made, piece{from, from + uintptr(v.Cap())*v.Type().Elem().Size()})
			}
			for i := range v.Len() {
				gather(v.Index(i))
			}
		case reflect.Struct:
			for i := range v.NumField() {
				gather(v.Field(i))
			}
		}
	}
	gather(reflect.ValueOf(x))
	return made
}

// apart tells whether no two lists of all these trees share memory.
func apart(trees ...any) bool {
	var all []piece
	for _, x := range trees {
		all = append(all, pieces(x)...)
	}
	slices.SortFunc(all, func(a, b piece) int { return int(a.from) - int(b.from) })
	for i := range len(all) - 1 {
		if all[i].to > all[i+1].from {
			return false
		}
	}
	return true
}

// short keeps what a test tells readable.
func short(x any) string {
	text := fmt.Sprintf("%+v", x)
	if len(text) > 300 {
		return text[:300] + " .."
	}
	return text
}

func exprIs(t *testing.T, x api.Expr, text string, deep int) {
	t.Helper()
	if got, e := tree.ExprText(x); got != text || e != api.OK {
		t.Errorf("ExprText of %s = %s, %v; want it", short(text), short(got), e)
	}
	if got := tree.Deep(x); got != deep {
		t.Errorf("Deep of %s = %d; want %d", short(text), got, deep)
	}
	if !tree.MayExpr(x) {
		t.Errorf("MayExpr of %s is false", short(text))
	}
}

// exprIsNot: what is told of it is a text of the test's own, for an expression
// may have no end.
func exprIsNot(t *testing.T, what string, x api.Expr) {
	t.Helper()
	if got, e := tree.ExprText(x); got != "" || e != api.ErrArg {
		t.Errorf("ExprText of %s = %s, %v; want ErrArg", what, short(got), e)
	}
	if got := tree.Deep(x); got != 0 {
		t.Errorf("Deep of %s = %d; want 0", what, got)
	}
	if tree.MayExpr(x) {
		t.Errorf("MayExpr of %s is true", what)
	}
}

func shapeIs(t *testing.T, s api.Shape, text string) {
	t.Helper()
	if got, e := tree.ShapeText(s); got != text || e != api.OK {
		t.Errorf("ShapeText of %s = %s, %v; want it", short(text), short(got), e)
	}
	if !tree.MayShape(s) {
		t.Errorf("MayShape of %s is false", short(text))
	}
}

func shapeIsNot(t *testing.T, what string, s api.Shape) {
	t.Helper()
	if got, e := tree.ShapeText(s); got != "" || e != api.ErrArg {
		t.Errorf("ShapeText of %s = %s, %v; want ErrArg", what, short(got), e)
	}
	if tree.MayShape(s) {
		t.Errorf("MayShape of %s is true", what)
	}
}

func itemsAre(t *testing.T, text string, l ...api.Item) {
	t.Helper()
	if got, e := tree.Text(l...); got != text || e != api.OK {
		t.Errorf("Text of %s = %s, %v; want it", short(text), short(got), e)
	}
	itemsMay(t, text, l...)
}

// itemsMay asks all but the text, which may be too long.
func itemsMay(t *testing.T, what string, l ...api.Item) {
	t.Helper()
	if !tree.May(l...) {
		t.Errorf("May of %s is false", short(what))
	}
	if !tree.Same(l, l) {
		t.Errorf("Same of %s and itself is false", short(what))
	}
	if _, e := tree.Strip(l...); e != api.OK {
		t.Errorf("Strip of %s: %v", short(what), e)
	}
}

func itemsAreNot(t *testing.T, what string, l ...api.Item) {
	t.Helper()
	if got, e := tree.Text(l...); got != "" || e != api.ErrArg {
		t.Errorf("Text of %s = %s, %v; want ErrArg", what, short(got), e)
	}
	if got, e := tree.Strip(l...); len(got) != 0 || e != api.ErrArg {
		t.Errorf("Strip of %s has %d items, %v; want ErrArg", what, len(got), e)
	}
	if tree.May(l...) {
		t.Errorf("May of %s is true", what)
	}
	if tree.Same(l, l) || tree.Same(l, nil) || tree.Same(nil, l) {
		t.Errorf("Same of %s is true", what)
	}
}
