package typing_test

import (
	"reflect"
	"slices"
	"testing"

	"recoup/api"
	"recoup/typing"
)

// Rule 5: what is answered is new memory, what is handed in stays. Rule 3: an
// error changes nothing.

// span is where a list lies, the room behind its end too.
type span struct{ from, end uintptr }

// spans are where all lists of a value lie, those in the room behind their ends
// left out.
func spans(v reflect.Value) []span {
	var made []span
	switch v.Kind() {
	case reflect.Slice:
		if v.Cap() > 0 {
			made = append(made, span{v.Pointer(), v.Pointer() + uintptr(v.Cap())*v.Type().Elem().Size()})
		}
		for i := range v.Len() {
			made = append(made, spans(v.Index(i))...)
		}
	case reflect.Struct:
		for i := range v.NumField() {
			made = append(made, spans(v.Field(i))...)
		}
	}
	return made
}

// lie tells whether some of these lists share memory.
func lie(values ...any) bool {
	var all []span
	for _, v := range values {
		all = append(all, spans(reflect.ValueOf(v))...)
	}
	slices.SortFunc(all, func(a, b span) int { return int(a.from) - int(b.from) })
	for i := range all {
		if i > 0 && all[i].from < all[i-1].end {
			return true
		}
	}
	return false
}

// spoilCore writes over all lists of a core, the room behind their ends too.
func spoilCore(c api.Core) {
	for i := range c.Codes {
		data := c.Codes[i].G.Data[:cap(c.Codes[i].G.Data)]
		for j := range data {
			data[j] ^= 77
		}
	}
	codes, numbers := c.Codes[:cap(c.Codes)], c.List[:cap(c.List)]
	for i := range codes {
		codes[i] = reed(50, 7)
	}
	for i := range numbers {
		numbers[i] = -7
	}
}

func texts() []string {
	made := []string{
		"code x = reed(4, 2); use x;",
		"code x = join(matrix [1; 2], matrix [1; 2]); code y = matrix [1, 2; 3, 4]; code z = join(y, x); use z; place list [0, 1, 2, 3, 4, 5];",
	}
	for seed := range 400 {
		text, _ := written(seed)
		made = append(made, text)
	}
	return made
}

func TestAnswersAreNewMemory(t *testing.T) {
	for _, text := range texts() {
		l := read(t, text)
		first, _ := typing.Check(l...)
		second, _ := typing.Check(l...)
		want := shown(first)
		if lie(first, second) {
			t.Errorf("two answers of %s, or two lists of one, share memory", short(text))
		}
		if lie(l, first) {
			t.Errorf("an answer of %s shares memory with what was handed in", short(text))
		}
		spoilCore(first)
		third, _ := typing.Check(l...)
		if shown(second) != want || shown(third) != want {
			t.Errorf("what is done to an answer of %s changes another", short(text))
		}
	}
}

// What was handed in may be changed behind the call.
func TestAnswersKeepNothing(t *testing.T) {
	for _, text := range texts() {
		l := read(t, text)
		c, _ := typing.Check(l...)
		want := shown(c)
		for _, x := range exprs(l) {
			*x = api.Expr{Kind: api.ENumber, N: 77, Line: -7}
		}
		for _, s := range shapes(l) {
			*s = api.Shape{Kind: api.SName, Name: "spoilt"}
		}
		for i := range l {
			l[i] = api.Item{Kind: api.IUse, Name: "spoilt"}
		}
		if shown(c) != want {
			t.Errorf("what is done to %s changes an answer", short(text))
		}
	}
}

// whole is a copy of a value, the room behind the ends of its lists too.
func whole(v reflect.Value) reflect.Value {
	made := reflect.New(v.Type()).Elem()
	switch v.Kind() {
	case reflect.Slice:
		v = v.Slice(0, v.Cap())
		for i := range v.Len() {
			made = reflect.Append(made, whole(v.Index(i)))
		}
	case reflect.Struct:
		for i := range v.NumField() {
			made.Field(i).Set(whole(v.Field(i)))
		}
	default:
		made.Set(v)
	}
	return made
}

// stays asks whether something leaves a value as it is.
func stays(t *testing.T, what string, v any, do func()) {
	t.Helper()
	held := whole(reflect.ValueOf(v)).Interface()
	do()
	if !reflect.DeepEqual(whole(reflect.ValueOf(v)).Interface(), held) {
		t.Errorf("%s is changed", what)
	}
}

// roomy is a description each of whose lists has something behind its end.
func roomy() []api.Item {
	num := func(n int) api.Expr { return api.Expr{Kind: api.ENumber, N: n} }
	exprs := func(l ...api.Expr) []api.Expr {
		return append(l, num(99), api.Expr{}, api.Expr{Kind: 99})[:len(l)]
	}
	sum := api.Expr{Kind: api.EAdd, L: exprs(api.Expr{Kind: api.EName, Name: "a"}, num(1))}
	matrix := api.Shape{Kind: api.SMatrix, Rows: [][]api.Expr{exprs(sum, num(1)), exprs(num(3), sum), {num(300)}}[:2]}
	parts := []api.Shape{matrix, {Kind: api.SReed, Args: exprs(sum, num(0))}, {Kind: api.SName, Name: "behind"}, {}}[:2]
	return []api.Item{
		{Kind: api.IConst, Name: "a", Value: num(1)}, {Kind: api.ICode, Name: "x", Shape: api.Shape{Kind: api.SJoin, Parts: parts}}, {Kind: api.IUse, Name: "x"},
		{Kind: api.IPlace, Place: api.PList, List: exprs(sum, num(0), num(1), sum)},
		{Kind: api.IDomains, Value: sum, Line: 9}, {Kind: api.IUse, Name: "behind"}, {},
	}[:4]
}

// Neither is what is handed in changed, nor what lies behind its end; and what
// lies there is of no moment.
func TestWhatIsHandedInStays(t *testing.T) {
	l := roomy()
	want := used(rows([]byte{2, 1}, []byte{3, 2}), reed(2, 0), pair(api.SJoin, 0, 1, 4, 4))
	want.Place, want.List = api.PList, list(2, 0, 1, 2)
	stays(t, "a description", l, func() {
		sameCore(t, "a description with room", want, l...)
		checkFails(t, "a beginning", fault(api.ErrType, 1, 1), l[:2]...)
		checkFails(t, "a beginning that is wrong", fault(api.ErrName, 0, 0), l[1:]...)
		checkFails(t, "more than it", fault(api.ErrType, 0, 0), l[:5]...)
		checkFails(t, "more than may be", fault(api.ErrArg, 0, 0), l[:7]...)
	})
	c := placed(api.PList, 0, make([]int, 14)...)
	c.List = c.List[:13]
	c.Codes = append(c.Codes, api.CoreCode{})[:7]
	c.Codes[4].G.Data = append(c.Codes[4].G.Data, 9)[:6]
	stays(t, "a core", c, func() {
		mayBe(t, "a core with room", true, c)
		sameIs(t, "a core with room", false, c, full())
		c := c
		c.Codes = c.Codes[:8]
		mayBe(t, "more than it", false, c)
	})
}

// One list may stand in several places.
func TestListsInSeveralPlaces(t *testing.T) {
	num := api.Expr{Kind: api.ENumber, N: 2}
	l := []api.Expr{num, num, num}
	square := api.Shape{Kind: api.SMatrix, Rows: [][]api.Expr{l[:2], l[1:]}}
	parts := []api.Shape{square, square}
	both := []api.Shape{{Kind: api.SJoin, Parts: parts}, {Kind: api.SJoin, Parts: parts}}
	grid := rows([]byte{2, 2}, []byte{2, 2})
	c, f := typing.Check(api.Item{Kind: api.ICode, Name: "x", Shape: api.Shape{Kind: api.SProduct, Parts: both}}, api.Item{Kind: api.IUse, Name: "x"})
	want := used(grid, grid, pair(api.SJoin, 0, 1, 4, 4), grid, grid, pair(api.SJoin, 3, 4, 4, 4), pair(api.SProduct, 2, 5, 16, 16))
	if shown(c) != shown(want) || f != (api.Fault{}) || lie(c, l) {
		t.Errorf("Check = %s, %v", shown(c), f)
	}
	// So may the lists of cores.
	data := []byte{2, 2, 2, 2}
	for i := range c.Codes {
		if c.Codes[i].Kind == api.SMatrix {
			c.Codes[i].G.Data = data
		}
	}
	mayBe(t, "a core of one list", true, c)
	sameIs(t, "a core of one list", true, c, want)
}

// Errors of all kinds, again and again, leave no trace in what comes behind
// them.
func TestErrorsChangeNothing(t *testing.T) {
	for range 3 {
		textFails(t, "code x = reed(1, 1); use x; domains 2; @domains 1;", api.ErrType)
		textFails(t, "code x = reed(1, 1); code y = @reed(64, 1);", api.ErrLimit)
		textFails(t, "const a = 0; code x = reed(1 @/ a, 1);", api.ErrZero)
		textFails(t, "code x = reed(2147483647 @* 2, 1);", api.ErrOver)
		textFails(t, "const a = 1; @const a = 2;", api.ErrTwice)
		textFails(t, "const a = 1; @use a;", api.ErrKind)
		textFails(t, "code x = reed(1, 1); use x; @place list [0]; tolerate 2;", api.ErrType)
		textFails(t, "code y = reed(1, 1); use y; @tolerate 3;", api.ErrType)
		checkFails(t, "no kind", fault(api.ErrArg, 0, 0), api.Item{})
		textFails(t, "@place spread; tolerate 1; domains 9;", api.ErrType)
		textFails(t, "code y = @x;", api.ErrName)
		coreIs(t, "code x = reed(1, 1); use x;", used(reed(1, 1)))
		mayBe(t, "nothing", false, api.Core{})
	}
}
