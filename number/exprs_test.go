package number_test

import (
	"fmt"
	"math"
	"math/big"
	"slices"
	"strings"
	"testing"

	"recoup/api"
	"recoup/number"
	"recoup/parse"
)

// What the package must tell is found out here in other ways: what an
// operation makes in numbers without a bound, what an expression comes to by
// its parts laid out in a row and a stack of numbers, what Put makes by rows of
// parts in which those of the one expression stand among those of the other.

const (
	most     = api.MaxNumber
	allWords = "code const cross domains join list local matrix place product pyramid reed row spiral spread tolerate use"
)

var (
	pairKinds  = []api.ExprKind{api.EAdd, api.ESub, api.EMul, api.EDiv, api.ERest}
	operations = append([]api.ExprKind{api.ENegate}, pairKinds...)
)

// source tells numbers by a simple rule that differs from seed to seed.
type source struct {
	state uint64
}

func seeded(seed int) *source {
	return &source{uint64(seed)*0x9e3779b97f4a7c15 + 12345}
}

func (s *source) word() uint64 {
	s.state = s.state*6364136223846793005 + 1442695040888963407
	return s.state ^ s.state>>32
}

// below is a number from 0 to ahead of n.
func (s *source) below(n int) int {
	return int(s.word() >> 1 % uint64(n))
}

func one[T any](s *source, list []T) T {
	return list[s.below(len(list))]
}

// number is one of both signs, of any size.
func (s *source) number() int {
	return (s.below(most) >> s.below(31)) * one(s, []int{1, -1})
}

func (s *source) expr(deep int) api.Expr {
	if deep <= 1 || s.below(5) == 0 {
		if s.below(2) == 0 {
			return num(one(s, []int{0, 1, 2, 3, 10, 50000, most}))
		}
		return name(one(s, someNames))
	}
	if s.below(4) == 0 {
		return neg(s.expr(deep - 1))
	}
	return two(one(s, pairKinds), s.expr(deep-1), s.expr(deep-1))
}

var someNames = []string{"a", "b", "ab", "n1", "abcdefghijklmnop"}

// env is an environment of some of the names, and of others.
func (s *source) env() []api.Const {
	var made []api.Const
	for _, text := range append([]string{"c", "used"}, someNames...) {
		if s.below(8) > 0 {
			made = slices.Insert(made, s.below(len(made)+1), api.Const{Name: text, N: s.number()})
		}
	}
	return made
}

func num(n int) api.Expr        { return api.Expr{Kind: api.ENumber, N: n} }
func name(text string) api.Expr { return api.Expr{Kind: api.EName, Name: text} }
func neg(x api.Expr) api.Expr   { return api.Expr{Kind: api.ENegate, L: []api.Expr{x}} }

func two(kind api.ExprKind, a, b api.Expr) api.Expr {
	return api.Expr{Kind: kind, L: []api.Expr{a, b}}
}

// at is an expression that stands there.
func at(x api.Expr, line, col int) api.Expr {
	x.Line, x.Col = line, col
	return x
}

// read is an expression by its text, its parts with their places.
func read(t *testing.T, text string) api.Expr {
	t.Helper()
	x, f := parse.Expr(text)
	if f != (api.Fault{}) {
		t.Fatalf("Expr(%s): %v", text, f)
	}
	return x
}

// constants is an environment: names and numbers in turn.
func constants(pairs ...any) []api.Const {
	var made []api.Const
	for i := 0; i < len(pairs); i += 2 {
		made = append(made, api.Const{Name: pairs[i].(string), N: pairs[i+1].(int)})
	}
	return made
}

// nested is an expression so deep, with the given one as its innermost part.
func nested(deep int, x api.Expr) api.Expr {
	for i := range deep - 1 {
		switch i % 4 {
		case 0:
			x = neg(x)
		case 1:
			x = two(api.EAdd, x, num(2))
		case 2:
			x = two(api.ESub, num(3), x)
		case 3:
			x = two(api.ERest, x, num(10))
		}
	}
	return x
}

// full is an expression of two parts, each of two parts, and so on, so deep,
// with the expressions of a list at its ends in turn.
func full(deep int, ends ...api.Expr) api.Expr {
	placed := 0
	var grow func(deep int) api.Expr
	grow = func(deep int) api.Expr {
		if deep == 1 {
			placed++
			return ends[(placed-1)%len(ends)]
		}
		return two(api.EAdd, grow(deep-1), grow(deep-1))
	}
	return grow(deep)
}

// placed is a copy of x whose parts stand at places that differ.
func placed(x api.Expr, from int) api.Expr {
	var move func(x api.Expr) api.Expr
	move = func(x api.Expr) api.Expr {
		from++
		made := at(x, from, -3*from)
		made.L = nil
		for _, part := range x.L {
			made.L = append(made.L, move(part))
		}
		return made
	}
	return move(x)
}

// clone is a copy of x that shares nothing with it.
func clone(x api.Expr) api.Expr {
	l := x.L
	x.L = nil
	for _, part := range l {
		x.L = append(x.L, clone(part))
	}
	return x
}

// flat is a part of an expression, with the number of its own parts instead of
// their list.
type flat struct {
	kind             api.ExprKind
	n                int
	name             string
	parts, line, col int
}

// row are the parts of x one behind the other, each ahead of its own.
func row(x api.Expr) []flat {
	made := []flat{{x.Kind, x.N, x.Name, len(x.L), x.Line, x.Col}}
	for _, part := range x.L {
		made = append(made, row(part)...)
	}
	return made
}

// alike tells whether two expressions are the same, places too.
func alike(a, b api.Expr) bool {
	return slices.Equal(row(a), row(b))
}

func depth(x api.Expr) int {
	deep := 0
	for _, part := range x.L {
		deep = max(deep, depth(part))
	}
	return deep + 1
}

// wrongExprs may not be; some of them have no end.
func wrongExprs() map[string]api.Expr {
	made := map[string]api.Expr{
		"no kind":                      {},
		"no kind with a number":        {N: 1},
		"a kind behind the last":       {Kind: api.ERest + 1, L: []api.Expr{num(1), num(2)}},
		"a number below 0":             num(-1),
		"a number beyond its bound":    num(most + 1),
		"a number with a name":         {Kind: api.ENumber, Name: "a"},
		"a number with parts":          {Kind: api.ENumber, L: []api.Expr{num(1)}},
		"a name without one":           {Kind: api.EName},
		"a name with a number":         {Kind: api.EName, Name: "a", N: 1},
		"a negated nothing":            {Kind: api.ENegate},
		"a negation of two":            {Kind: api.ENegate, L: []api.Expr{num(1), num(2)}},
		"a negation with a name":       {Kind: api.ENegate, Name: "a", L: []api.Expr{num(1)}},
		"a sum of one":                 {Kind: api.EAdd, L: []api.Expr{num(1)}},
		"a sum of three":               {Kind: api.EAdd, L: []api.Expr{num(1), num(2), num(3)}},
		"a product with a number":      {Kind: api.EMul, N: 1, L: []api.Expr{num(1), num(2)}},
		"one too deep":                 nested(api.MaxNest+1, num(1)),
		"one far too deep":             nested(1<<14, num(1)),
		"one part too many":            neg(neg(full(13, num(1)))),
		"far too many parts":           full(16, num(1)),
		"no kind within":               two(api.EAdd, num(1), neg(api.Expr{})),
		"no kind behind what is wrong": two(api.EAdd, two(api.EDiv, num(1), num(0)), api.Expr{}),
	}
	for _, text := range badNames() {
		made["the name "+text[:min(len(text), 20)]] = name(text)
	}
	loop, fork := make([]api.Expr, 1), make([]api.Expr, 2)
	loop[0] = api.Expr{Kind: api.ENegate, L: loop}
	fork[0] = api.Expr{Kind: api.EMul, L: fork}
	fork[1] = fork[0]
	made["a negation of itself"], made["a product of itself"] = loop[0], fork[0]
	return made
}

func badNames() []string {
	return append(strings.Fields(allWords), "", "A", "aB", "1", "1a", "a_b", "a b", " a", "a ", "-", "(", "ä", "a\n", "a\x00", "\xff", "abcdefghijklmnopq", strings.Repeat("a", api.MaxText))
}

func isOperation(op api.ExprKind) bool { return slices.Contains(operations, op) }
func isNumber(n int) bool              { return n >= -most && n <= most }

// slowWork is what an operation makes, in numbers without a bound.
func slowWork(op api.ExprKind, a, b int) (int, api.Errno) {
	if !isOperation(op) || !isNumber(a) || !isNumber(b) {
		return 0, api.ErrArg
	}
	first, second, made := big.NewInt(int64(a)), big.NewInt(int64(b)), new(big.Int)
	switch op {
	case api.ENegate:
		made.Neg(first)
	case api.EAdd:
		made.Add(first, second)
	case api.ESub:
		made.Sub(first, second)
	case api.EMul:
		made.Mul(first, second)
	default:
		if second.Sign() == 0 {
			return 0, api.ErrZero
		}
		// The rest is what the sizes leave, with the sign of what is divided.
		quotient, rest := new(big.Int).DivMod(new(big.Int).Abs(first), new(big.Int).Abs(second), new(big.Int))
		if first.Sign() < 0 {
			rest.Neg(rest)
		}
		if first.Sign()*second.Sign() < 0 {
			quotient.Neg(quotient)
		}
		made = rest
		if op == api.EDiv {
			made = quotient
		}
	}
	if made.CmpAbs(big.NewInt(most)) > 0 {
		return 0, api.ErrOver
	}
	return int(made.Int64()), api.OK
}

// slowEval is what an expression that may be comes to: its parts are laid out
// in a row, each behind its own, and their numbers put on a stack.
func slowEval(x api.Expr, env ...api.Const) (int, api.Fault) {
	var behind []api.Expr // each part behind its own
	todo := []api.Expr{x}
	for len(todo) > 0 {
		last := todo[len(todo)-1]
		todo = append(todo[:len(todo)-1], last.L...)
		behind = append(behind, last)
	}
	slices.Reverse(behind)
	var stack []int
	for _, part := range behind {
		made, e := part.N, api.OK
		switch part.Kind {
		case api.ENumber:
		case api.EName:
			place := slices.IndexFunc(env, func(c api.Const) bool { return c.Name == part.Name })
			if place < 0 {
				e = api.ErrName
			} else {
				made = env[place].N
			}
		default:
			args := append(slices.Clone(stack[len(stack)-len(part.L):]), 0)
			stack = stack[:len(stack)-len(part.L)]
			made, e = slowWork(part.Kind, args[0], args[1])
		}
		if e != api.OK {
			return 0, api.Fault{Code: e, Line: part.Line, Col: part.Col}
		}
		stack = append(stack, made)
	}
	return stack[0], api.Fault{}
}

// short keeps what a test tells readable.
func short(x any) string {
	text := fmt.Sprintf("%+v", x)
	if len(text) > 300 {
		return text[:300] + " .."
	}
	return text
}

func fault(e api.Errno, line, col int) api.Fault {
	return api.Fault{Code: e, Line: line, Col: col}
}

func workIs(t *testing.T, op api.ExprKind, a, b, want int, e api.Errno) {
	t.Helper()
	if got, ge := number.Work(op, a, b); got != want || ge != e {
		t.Errorf("Work(%d, %d, %d) = %d, %v; want %d, %v", op, a, b, got, ge, want, e)
	}
}

func evalIs(t *testing.T, x api.Expr, want int, env ...api.Const) {
	t.Helper()
	if got, f := number.Eval(x, env...); got != want || f != (api.Fault{}) {
		t.Errorf("Eval(%s; %s) = %d, %v; want %d", short(x), short(env), got, f, want)
	}
}

// evalFails: what is told of x is a text of the test's own, for x may have no
// end.
func evalFails(t *testing.T, what string, x api.Expr, want api.Fault, env ...api.Const) {
	t.Helper()
	if got, f := number.Eval(x, env...); got != 0 || f != want {
		t.Errorf("Eval(%s; %s) = %d, %v; want %v", what, short(env), got, f, want)
	}
}

func namesAre(t *testing.T, x api.Expr, want ...string) {
	t.Helper()
	if got, e := number.Names(x); !slices.Equal(got, want) || e != api.OK {
		t.Errorf("Names(%s) = %s, %v; want %s", short(x), short(got), e, short(want))
	}
}

func putIs(t *testing.T, x api.Expr, text string, y, want api.Expr) {
	t.Helper()
	if got, e := number.Put(x, text, y); !alike(got, want) || e != api.OK {
		t.Errorf("Put(%s, %s, %s) = %s, %v; want %s", short(x), text, short(y), short(got), e, short(want))
	}
}

func putFails(t *testing.T, what string, x api.Expr, text string, y api.Expr, want api.Errno) {
	t.Helper()
	if got, e := number.Put(x, text, y); !alike(got, api.Expr{}) || e != want {
		t.Errorf("Put of %s = %s, %v; want %v", what, short(got), e, want)
	}
}

// beyond are ints that are no numbers, some of which are small ones in 32 bits.
func beyond() []int {
	return []int{most + 1, -most - 1, most + 2, -most - 2, 1 << 32, -1 << 32, 1<<32 + 5, -1<<32 - 5, 1 << 62, math.MaxInt, math.MinInt, math.MinInt + 1}
}
