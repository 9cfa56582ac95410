package number_test

import (
	"math"
	"slices"
	"testing"

	"recoup/api"
	"recoup/number"
)

// P12.4

// same: two environments in which x comes to the same.
func same(t *testing.T, x api.Expr, a, b []api.Const) {
	t.Helper()
	n, f := number.Eval(x, a...)
	m, g := number.Eval(x, b...)
	if n != m || f != g {
		t.Errorf("Eval(%s) = %d, %v in %v and %d, %v in %v", short(x), n, f, a, m, g, b)
	}
}

func TestOnlyNamesThatStandInItCount(t *testing.T) {
	for seed := range 5000 {
		s := seeded(seed)
		x, env := placed(s.expr(1+s.below(7)), 0), s.env()
		names, _ := number.Names(x)
		fewer := slices.DeleteFunc(slices.Clone(env), func(c api.Const) bool { return !slices.Contains(names, c.Name) })
		same(t, x, env, fewer)
		other := slices.Clone(env)
		for i, c := range other {
			if !slices.Contains(names, c.Name) {
				other[i].N = s.number()
			}
		}
		same(t, x, env, other)
		same(t, x, env, append(slices.Clone(env), constants("more", s.number(), "more2", s.number())...))
	}
}

func TestNamesThatStandInItCount(t *testing.T) {
	for _, text := range []string{"a", "1 + a", "- a", "a * 3 + b", "b - (2 - (b + a))"} {
		x := read(t, text)
		n, f := number.Eval(x, constants("a", 5, "b", 6)...)
		m, g := number.Eval(x, constants("a", 7, "b", 6)...)
		if n == m || f != (api.Fault{}) || g != (api.Fault{}) {
			t.Errorf("Eval(%s) = %d, %v and %d, %v", text, n, f, m, g)
		}
		_, f = number.Eval(x, constants("b", 6)...)
		if f.Code != api.ErrName {
			t.Errorf("Eval(%s) without a: %v", text, f)
		}
	}
}

// All orders of four constants.
func TestTheOrderOfAnEnvironmentDoesNotCount(t *testing.T) {
	env := constants("a", 3, "b", -4, "ab", most, "n1", 0)
	var orders [][]api.Const
	var choose func(ahead, left []api.Const)
	choose = func(ahead, left []api.Const) {
		if len(left) == 0 {
			orders = append(orders, slices.Clone(ahead))
		}
		for i, c := range left {
			choose(append(ahead, c), slices.Delete(slices.Clone(left), i, i+1))
		}
	}
	choose(nil, env)
	if len(orders) != 24 {
		t.Fatalf("%d orders", len(orders))
	}
	for seed := range 500 {
		x := placed(seeded(seed).expr(5), seed)
		for _, other := range orders {
			same(t, x, env, other)
		}
	}
}

// with is an environment in which a name stands for n, whatever it stood for.
func with(env []api.Const, text string, n int) []api.Const {
	made := slices.DeleteFunc(slices.Clone(env), func(c api.Const) bool { return c.Name == text })
	return append(made, api.Const{Name: text, N: n})
}

// Put of x, name and y comes to what x comes to where the name is what y comes
// to; a fault stands at its place in x.
func TestWhatPutComesTo(t *testing.T) {
	const all = 20000
	met := map[api.Errno]int{}
	for seed := range all {
		s := seeded(seed)
		x, y := placed(s.expr(1+s.below(7)), 0), placed(s.expr(1+s.below(4)), 5000)
		env, put := s.env(), one(s, someNames)
		n, f := number.Eval(y, env...)
		made, e := number.Put(x, put, y)
		if f != (api.Fault{}) || e != api.OK {
			continue
		}
		want, wf := number.Eval(x, with(env, put, n)...)
		if got, gf := number.Eval(made, env...); got != want || gf != wf {
			t.Fatalf("Put(%s, %s, %s) in %v comes to %d, %v; want %d, %v", short(x), put, short(y), env, got, gf, want, wf)
		}
		if _, there := slices.BinarySearch(must(t, x), put); there {
			met[wf.Code]++
		}
	}
	for _, e := range []api.Errno{api.OK, api.ErrName, api.ErrZero, api.ErrOver} {
		if met[e] < all/100 {
			t.Errorf("%v is met %d times alone", e, met[e])
		}
	}
}

func must(t *testing.T, x api.Expr) []string {
	t.Helper()
	l, e := number.Names(x)
	if e != api.OK {
		t.Fatalf("Names(%s): %v", short(x), e)
	}
	return l
}

// The names of what Put makes: those of x without the name, and those of y if
// the name stood in x.
func TestNamesOfWhatPutMakes(t *testing.T) {
	for seed := range 5000 {
		s := seeded(seed)
		x, y, put := s.expr(1+s.below(6)), s.expr(1+s.below(6)), one(s, someNames)
		made, e := number.Put(x, put, y)
		if e != api.OK {
			t.Fatalf("Put(%s, %s, %s): %v", short(x), put, short(y), e)
		}
		want := must(t, x)
		if place, there := slices.BinarySearch(want, put); there {
			want = append(slices.Delete(want, place, place+1), must(t, y)...)
			slices.Sort(want)
		}
		namesAre(t, made, slices.Compact(want)...)
	}
}

// With a constant for each of its names, and with no less, an expression has
// no ErrName.
func TestNamesAreWhatEvalAsksFor(t *testing.T) {
	for seed := range 3000 {
		s := seeded(seed)
		x := placed(s.expr(1+s.below(6)), 0)
		var env []api.Const
		for _, text := range must(t, x) {
			env = append(env, api.Const{Name: text, N: 1 + s.below(9)})
		}
		if _, f := number.Eval(x, env...); f.Code == api.ErrName {
			t.Errorf("Eval(%s; %v): %v", short(x), env, f)
		}
		for i := range env {
			fewer := slices.Delete(slices.Clone(env), i, i+1)
			if _, f := number.Eval(x, fewer...); f == (api.Fault{}) {
				t.Errorf("Eval(%s; %v) has no fault", short(x), fewer)
			}
		}
	}
}

// What is answered is a number, and what Work takes.
func TestAnswersAreNumbers(t *testing.T) {
	for seed := range 20000 {
		s := seeded(seed)
		n, f := number.Eval(s.expr(1+s.below(8)), s.env()...)
		if f != (api.Fault{}) {
			continue
		}
		if n < -most || n > most {
			t.Fatalf("%d is no number", n)
		}
		workIs(t, api.ESub, n, n, 0, api.OK)
	}
}

// No call panics, whatever it is given.
func TestAnythingAtAll(t *testing.T) {
	loop := make([]api.Expr, 2)
	for _, n := range []int{0, 1, -1, math.MaxInt, math.MinInt} {
		for kind := range 12 {
			op := api.ExprKind(kind)
			number.Work(op, n, -n)
			for _, l := range [][]api.Expr{nil, {}, loop, loop[:1], make([]api.Expr, 3), {num(1), num(2)}} {
				for _, text := range []string{"", "a", "use", "\xff\x00"} {
					x := api.Expr{Kind: op, N: n, Name: text, L: l, Line: n, Col: n}
					loop[0], loop[1] = x, x
					_, f := number.Eval(x, api.Const{Name: text, N: n})
					_, e := number.Names(x)
					_, e2 := number.Put(x, text, x)
					if e == api.ErrArg && (f != fault(api.ErrArg, 0, 0) || e2 != api.ErrArg) {
						t.Errorf("the kind %d with %d and %q: %v, %v, %v", kind, n, text, f, e, e2)
					}
				}
			}
		}
	}
}
