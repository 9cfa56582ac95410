package parse_test

import (
	"fmt"
	"reflect"
	"strings"
	"testing"

	"recoup/api"
	"recoup/parse"
	"recoup/tree"
)

// What the package must tell is found out here in other ways: trees are made
// first and then written, with places noted as they come up, so that they are
// known ahead of being read; where tokens go on no longer is found by all ways
// through the grammar at once.

const allWords = "code const cross domains join list local matrix place product pyramid reed row spiral spread tolerate use"

// source tells numbers by a simple rule that differs from seed to seed.
type source struct {
	state uint64
}

func seeded(seed int) *source {
	return &source{uint64(seed)*0x9e3779b97f4a7c15 + 12345}
}

func (s *source) word() uint64 {
	s.state = s.state*6364136223846793005 + 1442695040888963407
	return s.state ^ s.state>>32
}

// below is a number from 0 to ahead of n.
func (s *source) below(n int) int {
	return int(s.word() >> 1 % uint64(n))
}

func one[T any](s *source, list []T) T {
	return list[s.below(len(list))]
}

func num(n int) api.Expr        { return api.Expr{Kind: api.ENumber, N: n} }
func name(text string) api.Expr { return api.Expr{Kind: api.EName, Name: text} }
func neg(x api.Expr) api.Expr   { return api.Expr{Kind: api.ENegate, L: []api.Expr{x}} }

func two(kind api.ExprKind, a, b api.Expr) api.Expr {
	return api.Expr{Kind: kind, L: []api.Expr{a, b}}
}

func shaped(text string) api.Shape { return api.Shape{Kind: api.SName, Name: text} }

func of(kind api.ShapeKind, args ...api.Expr) api.Shape {
	return api.Shape{Kind: kind, Args: args}
}

func both(kind api.ShapeKind, a, b api.Shape) api.Shape {
	return api.Shape{Kind: kind, Parts: []api.Shape{a, b}}
}

func table(rows ...[]api.Expr) api.Shape {
	return api.Shape{Kind: api.SMatrix, Rows: rows}
}

func constant(text string, x api.Expr) api.Item {
	return api.Item{Kind: api.IConst, Name: text, Value: x}
}

func code(text string, s api.Shape) api.Item {
	return api.Item{Kind: api.ICode, Name: text, Shape: s}
}

func use(text string) api.Item      { return api.Item{Kind: api.IUse, Name: text} }
func domains(x api.Expr) api.Item   { return api.Item{Kind: api.IDomains, Value: x} }
func tolerate(x api.Expr) api.Item  { return api.Item{Kind: api.ITolerate, Value: x} }
func spiral(x api.Expr) api.Item    { return api.Item{Kind: api.IPlace, Place: api.PSpiral, Value: x} }
func listed(l ...api.Expr) api.Item { return api.Item{Kind: api.IPlace, Place: api.PList, List: l} }
func row() api.Item                 { return api.Item{Kind: api.IPlace, Place: api.PRow} }
func spread() api.Item              { return api.Item{Kind: api.IPlace, Place: api.PSpread} }

// signOf is what stands between the parts of an expression of two.
func signOf(kind api.ExprKind) string {
	return map[api.ExprKind]string{api.EAdd: "+", api.ESub: "-", api.EMul: "*", api.EDiv: "/", api.ERest: "%"}[kind]
}

// bindsTight tells whether an expression of two parts is a term.
func bindsTight(kind api.ExprKind) bool {
	return kind == api.EMul || kind == api.EDiv || kind == api.ERest
}

var pairKinds = []api.ExprKind{api.EAdd, api.ESub, api.EMul, api.EDiv, api.ERest}

var shapeWords = map[api.ShapeKind]string{
	api.SReed: "reed", api.SCross: "cross", api.SLocal: "local", api.SPyramid: "pyramid",
	api.SProduct: "product", api.SJoin: "join", api.SMatrix: "matrix",
}

// Any trees.

func (s *source) expr(deep int) api.Expr {
	if deep <= 1 || s.below(4) == 0 {
		if s.below(2) == 0 {
			return num(one(s, []int{0, 1, 2, 10, api.MaxNumber}))
		}
		return name(one(s, []string{"a", "b", "ab", "n1", "abcdefghijklmnop"}))
	}
	if s.below(4) == 0 {
		return neg(s.expr(deep - 1))
	}
	return two(one(s, pairKinds), s.expr(deep-1), s.expr(deep-1))
}

func (s *source) exprs(count, deep int) []api.Expr {
	l := make([]api.Expr, count)
	for i := range l {
		l[i] = s.expr(deep)
	}
	return l
}

func (s *source) shape(deep int) api.Shape {
	kind := api.SName + api.ShapeKind(s.below(8))
	if deep <= 1 && (kind == api.SProduct || kind == api.SJoin) {
		kind = api.SName
	}
	switch kind {
	case api.SName:
		return shaped(one(s, []string{"x", "y", "xy"}))
	case api.SReed, api.SCross:
		return of(kind, s.exprs(2, 3)...)
	case api.SLocal, api.SPyramid:
		return of(kind, s.exprs(3, 3)...)
	case api.SMatrix:
		made := table()
		for range 1 + s.below(3) {
			made.Rows = append(made.Rows, s.exprs(1+s.below(3), 2))
		}
		return made
	}
	return both(kind, s.shape(deep-1), s.shape(deep-1))
}

func (s *source) item() api.Item {
	switch s.below(9) {
	case 0:
		return constant(one(s, []string{"a", "n1"}), s.expr(4))
	case 1, 2:
		return code(one(s, []string{"x", "y"}), s.shape(3))
	case 3:
		return use(one(s, []string{"x", "used"}))
	case 4:
		return domains(s.expr(3))
	case 5:
		return tolerate(s.expr(3))
	case 6:
		return spiral(s.expr(4))
	case 7:
		return listed(s.exprs(1+s.below(4), 3)...)
	}
	return one(s, []api.Item{row(), spread()})
}

func (s *source) items() []api.Item {
	l := make([]api.Item, s.below(6))
	for i := range l {
		l[i] = s.item()
	}
	return l
}

// full is an expression of two parts, each of two parts, and so on, so deep.
func full(deep int) api.Expr {
	if deep == 1 {
		return num(1)
	}
	return two(api.EAdd, full(deep-1), full(deep-1))
}

// nested is an expression so deep.
func nested(deep int) api.Expr {
	x := num(1)
	for i := range deep - 1 {
		switch i % 4 {
		case 0:
			x = neg(x)
		case 1:
			x = two(api.EAdd, x, num(2))
		case 2:
			x = two(api.ESub, num(3), x)
		case 3:
			x = two(api.ERest, name("a"), x)
		}
	}
	return x
}

// nestedShape is a shape so deep.
func nestedShape(deep int) api.Shape {
	s := shaped("x")
	for i := range deep - 1 {
		if i%2 == 0 {
			s = both(api.SProduct, s, shaped("y"))
		} else {
			s = both(api.SJoin, shaped("z"), s)
		}
	}
	return s
}

// ones is a list of so many numbers.
func ones(count int) []api.Expr {
	l := make([]api.Expr, count)
	for i := range l {
		l[i] = num(1)
	}
	return l
}

// sized is a matrix of so many rows and columns.
func sized(rows, cols int) api.Shape {
	s := table()
	for range rows {
		s.Rows = append(s.Rows, ones(cols))
	}
	return s
}

// holding is a matrix of so many expressions, each row as long as may be.
func holding(count int) api.Shape {
	s := table()
	for ; count > api.MaxSide; count -= api.MaxSide {
		s.Rows = append(s.Rows, ones(api.MaxSide))
	}
	s.Rows = append(s.Rows, ones(count))
	return s
}

// tidyOf is the text of trees as layer 10 has it.
func tidyOf(t *testing.T, l ...api.Item) string {
	t.Helper()
	text, e := tree.Text(l...)
	if e != api.OK {
		t.Fatalf("Text of %d items: %v", len(l), e)
	}
	return text
}

// nowhere is a copy of a tree with all places 0, sharing nothing with it.
func nowhere[T any](x T) T {
	return deepCopy(reflect.ValueOf(x)).Interface().(T)
}

func deepCopy(v reflect.Value) reflect.Value {
	made := reflect.New(v.Type()).Elem()
	switch v.Kind() {
	case reflect.Slice:
		for i := range v.Len() {
			made = reflect.Append(made, deepCopy(v.Index(i)))
		}
	case reflect.Struct:
		for i := range v.NumField() {
			if field := v.Type().Field(i).Name; field != "Line" && field != "Col" {
				made.Field(i).Set(deepCopy(v.Field(i)))
			}
		}
	default:
		made.Set(v)
	}
	return made
}

// equal tells whether two trees are the same, places too, empty lists being
// like none.
func equal(a, b reflect.Value) bool {
	switch a.Kind() {
	case reflect.Slice:
		if a.Len() != b.Len() {
			return false
		}
		for i := range a.Len() {
			if !equal(a.Index(i), b.Index(i)) {
				return false
			}
		}
		return true
	case reflect.Struct:
		for i := range a.NumField() {
			if !equal(a.Field(i), b.Field(i)) {
				return false
			}
		}
		return true
	}
	return a.Equal(b)
}

func alike[T any](a, b T) bool {
	return equal(reflect.ValueOf(a), reflect.ValueOf(b))
}

// short keeps what a test tells readable.
func short(x any) string {
	text := fmt.Sprintf("%+v", x)
	if len(text) > 300 {
		return text[:300] + " .."
	}
	return text
}

// brief does so for a text.
func brief(text string) string {
	if len(text) > 90 {
		text = text[:90] + ".."
	}
	return fmt.Sprintf("%q", text)
}

func fault(e api.Errno, line, col int) api.Fault {
	return api.Fault{Code: e, Line: line, Col: col}
}

// exprIs: the places are asked too, but of a tree that has none.
func exprIs(t *testing.T, text string, want api.Expr) {
	t.Helper()
	got, f := parse.Expr(text)
	if want.Line == 0 {
		got = nowhere(got)
	}
	if !alike(got, want) || f != (api.Fault{}) {
		t.Errorf("Expr(%s) = %s, %v; want %s", brief(text), short(got), f, short(want))
	}
}

func shapeIs(t *testing.T, text string, want api.Shape) {
	t.Helper()
	got, f := parse.Shape(text)
	if want.Line == 0 {
		got = nowhere(got)
	}
	if !alike(got, want) || f != (api.Fault{}) {
		t.Errorf("Shape(%s) = %s, %v; want %s", brief(text), short(got), f, short(want))
	}
}

func programIs(t *testing.T, text string, want ...api.Item) {
	t.Helper()
	got, f := parse.Program(text)
	if len(want) > 0 && want[0].Line == 0 {
		got = nowhere(got)
	}
	if !alike(got, want) || f != (api.Fault{}) {
		t.Errorf("Program(%s) = %s, %v; want %s", brief(text), short(got), f, short(want))
	}
}

func tidyIs(t *testing.T, text, want string) {
	t.Helper()
	if got, f := parse.Tidy(text); got != want || f != (api.Fault{}) {
		t.Errorf("Tidy(%s) = %s, %v; want %s", brief(text), brief(got), f, brief(want))
	}
}

func exprFails(t *testing.T, text string, e api.Errno, line, col int) {
	t.Helper()
	if got, f := parse.Expr(text); !alike(got, api.Expr{}) || f != fault(e, line, col) {
		t.Errorf("Expr(%s) = %s, %v; want %v", brief(text), short(got), f, fault(e, line, col))
	}
}

func shapeFails(t *testing.T, text string, e api.Errno, line, col int) {
	t.Helper()
	if got, f := parse.Shape(text); !alike(got, api.Shape{}) || f != fault(e, line, col) {
		t.Errorf("Shape(%s) = %s, %v; want %v", brief(text), short(got), f, fault(e, line, col))
	}
}

// programFails asks Tidy too, which has all faults that Program has.
func programFails(t *testing.T, text string, e api.Errno, line, col int) {
	t.Helper()
	if got, f := parse.Program(text); len(got) != 0 || f != fault(e, line, col) {
		t.Errorf("Program(%s) = %s, %v; want %v", brief(text), short(got), f, fault(e, line, col))
	}
	tidyFails(t, text, e, line, col)
}

func tidyFails(t *testing.T, text string, e api.Errno, line, col int) {
	t.Helper()
	if got, f := parse.Tidy(text); got != "" || f != fault(e, line, col) {
		t.Errorf("Tidy(%s) = %s, %v; want %v", brief(text), brief(got), f, fault(e, line, col))
	}
}

// lined is texts, each in a line of its own.
func lined(texts ...string) string {
	return strings.Join(texts, "\n") + "\n"
}
