package number_test

import (
	"math"
	"slices"
	"strings"
	"testing"

	"recoup/api"
	"recoup/number"
)

// P12.2

func TestEvalOfExamples(t *testing.T) {
	evalIs(t, read(t, "1 + 2 * 3"), 7)
	evalIs(t, read(t, "a * a"), 81, constants("a", 9)...)
	evalFails(t, "b + 1 / 0", read(t, "b + 1 / 0"), fault(api.ErrName, 1, 1))
	evalFails(t, "1 / 0 + b", read(t, "1 / 0 + b"), fault(api.ErrZero, 1, 3))
	evalFails(t, "a product", read(t, "2147483647 * 2147483647"), fault(api.ErrOver, 1, 12))
	evalFails(t, "1", read(t, "1"), fault(api.ErrArg, 0, 0), constants("a", 1, "a", 2)...)
}

func TestEvalOfEachKind(t *testing.T) {
	evalIs(t, num(0), 0)
	evalIs(t, num(most), most)
	evalIs(t, name("a"), -5, constants("a", -5)...)
	evalIs(t, neg(num(5)), -5)
	evalIs(t, neg(name("a")), 5, constants("a", -5)...)
	evalIs(t, neg(neg(num(most))), most)
	evalIs(t, two(api.EAdd, num(7), num(3)), 10)
	evalIs(t, two(api.ESub, num(3), num(7)), -4)
	evalIs(t, two(api.EMul, num(7), neg(num(3))), -21)
	evalIs(t, two(api.EDiv, num(7), num(3)), 2)
	evalIs(t, two(api.EDiv, neg(num(7)), num(2)), -3)
	evalIs(t, two(api.ERest, neg(num(7)), num(2)), -1)
	evalIs(t, two(api.ERest, num(7), neg(num(2))), 1)
}

func TestEvalOfSeveralParts(t *testing.T) {
	env := constants("a", 4, "b", -3, "c", 0)
	for text, want := range map[string]int{
		"10 - 3 - 2":                  5,
		"10 - (3 - 2)":                9,
		"100 / 7 / 2":                 7,
		"100 / (7 / 2)":               33,
		"100 % 7 % 2":                 0,
		"100 % (7 % 4)":               1,
		"- 2 * - 3":                   6,
		"- (2 - 5) * 4":               12,
		"a + a * a - a":               16,
		"a * b + b * a":               -24,
		"(a + b) * (a - b) % 5":       2,
		"b / 2":                       -1,
		"b % 2":                       -1,
		"- b % 2":                     1,
		"c / a + c % b":               0,
		"(c + 1) * - (a / (b + 4))":   -4,
		"2147483647 - 1 + 1":          most,
		"- 2147483647 + 1 - 1":        -most,
		"2147483647 / (0 - 1)":        -most,
		"- 2147483647 / - 1":          most,
		"46340 * 46341 - 46340*46340": 46340,
	} {
		evalIs(t, read(t, text), want, env...)
	}
}

// Each fault at each place, in lines of their own.
func TestWhereFaultsStand(t *testing.T) {
	env := constants("a", 1, "z", 0, "m", most)
	for text, want := range map[string]api.Fault{
		"b":                                 fault(api.ErrName, 1, 1),
		"\n\n  b":                           fault(api.ErrName, 3, 3),
		"1 + b":                             fault(api.ErrName, 1, 5),
		"- -\n- b":                          fault(api.ErrName, 2, 3),
		"(1 + (2 * (a - c)))":               fault(api.ErrName, 1, 16),
		"1 / 0":                             fault(api.ErrZero, 1, 3),
		"1 % 0":                             fault(api.ErrZero, 1, 3),
		"a /\nz":                            fault(api.ErrZero, 1, 3),
		"a\n  % z":                          fault(api.ErrZero, 2, 3),
		"a / (a - a)":                       fault(api.ErrZero, 1, 3),
		"(a % (1 -\n1))":                    fault(api.ErrZero, 1, 4),
		"- (0 / 0)":                         fault(api.ErrZero, 1, 6),
		"m + 1":                             fault(api.ErrOver, 1, 3),
		"m\n+\n1":                           fault(api.ErrOver, 2, 1),
		"- m - 1":                           fault(api.ErrOver, 1, 5),
		"2 * (m - 1)":                       fault(api.ErrOver, 1, 3),
		"1 + 1 + m":                         fault(api.ErrOver, 1, 7),
		"(1 + (m + m)) - m":                 fault(api.ErrOver, 1, 9),
		"m + 1 - 1":                         fault(api.ErrOver, 1, 3),
		"m * m / m":                         fault(api.ErrOver, 1, 3),
		"1000000 * 1000000 / (1 - 1)":       fault(api.ErrOver, 1, 9),
		"0 * (m + 1)":                       fault(api.ErrOver, 1, 8),
		"- 2147483647 - 1 + 2147483647 + 1": fault(api.ErrOver, 1, 14),
	} {
		evalFails(t, text, read(t, text), want, env...)
	}
}

// Of two faults the one at the left is met first, and one in a part ahead of
// one of the whole.
func TestWhichFaultIsMetFirst(t *testing.T) {
	faults := map[string]struct {
		e  api.Errno
		at int // where it stands in its text
	}{"(b)": {api.ErrName, 2}, "(1 / 0)": {api.ErrZero, 4}, "(7 % 0)": {api.ErrZero, 4}, "(m + m)": {api.ErrOver, 4}, "(1 + - - b)": {api.ErrName, 10}}
	for left, first := range faults {
		for right := range faults {
			for _, sign := range []string{"+", "-", "*", "/", "%"} {
				text := left + " " + sign + " " + right
				evalFails(t, text, read(t, text), fault(first.e, 1, first.at), constants("m", most)...)
			}
		}
		for _, text := range []string{left + " / 0", left + " % 0", left + " * 9 * 9 + b", left + " / (1 - 1)"} {
			evalFails(t, text, read(t, text), fault(first.e, 1, first.at), constants("m", most)...)
		}
		for _, ahead := range []string{"0 * ", "0 / ", "0 % ", "- ", "1 + - ", "(1 - 1) * "} {
			evalFails(t, ahead+left, read(t, ahead+left), fault(first.e, 1, len(ahead)+first.at), constants("m", most)...)
		}
	}
	evalFails(t, "two names", read(t, "c * b + b"), fault(api.ErrName, 1, 1))
	evalFails(t, "the second name", read(t, "c * b + b"), fault(api.ErrName, 1, 5), constants("c", 0)...)
	evalFails(t, "the second name", read(t, "(c * (c + b)) + b"), fault(api.ErrName, 1, 11), constants("c", 0)...)
}

// A part's place is told as it is, whatever it is.
func TestFaultsTellPlacesAsTheyAre(t *testing.T) {
	for _, place := range [][2]int{{0, 0}, {0, 3}, {3, 0}, {-1, -2}, {math.MaxInt, math.MinInt}, {70000, 1}} {
		line, col := place[0], place[1]
		evalFails(t, "a name", at(name("b"), line, col), fault(api.ErrName, line, col))
		evalFails(t, "a quotient", at(two(api.EDiv, at(num(1), 8, 9), at(num(0), 9, 8)), line, col), fault(api.ErrZero, line, col))
		evalFails(t, "a sum", neg(at(two(api.EAdd, at(num(most), 8, 9), at(num(1), 9, 8)), line, col)), fault(api.ErrOver, line, col))
		evalIs(t, at(two(api.EAdd, at(num(1), line, line), at(name("a"), col, col)), line, col), 3, constants("a", 2)...)
	}
}

func TestEvalAsDeepAsMayBe(t *testing.T) {
	for deep := 1; deep <= api.MaxNest; deep++ {
		x := nested(deep, name("a"))
		want, f := slowEval(x, constants("a", 100)...)
		if f != (api.Fault{}) {
			t.Fatalf("%d deep: %v", deep, f)
		}
		evalIs(t, x, want, constants("a", 100)...)
		evalFails(t, "a name deep inside", nested(deep, at(name("b"), 7, 8)), fault(api.ErrName, 7, 8), constants("a", 100)...)
	}
	evalFails(t, "one too deep", placed(nested(api.MaxNest+1, num(1)), 0), fault(api.ErrArg, 0, 0))
	evalFails(t, "one too deep, with a fault", placed(nested(api.MaxNest+1, name("b")), 0), fault(api.ErrArg, 0, 0))
}

func TestEvalOfAsManyPartsAsMayBe(t *testing.T) {
	evalIs(t, full(13, num(1)), 4096)
	evalIs(t, full(13, name("a"), name("b")), 0, constants("a", most, "b", -most)...)
	evalIs(t, neg(full(13, num(1))), -4096)
	evalFails(t, "one part too many", neg(neg(full(13, num(1)))), fault(api.ErrArg, 0, 0))
	ends := slices.Repeat([]api.Expr{num(524287)}, 4096) // 2147479552 in all
	evalIs(t, full(13, ends...), 2147479552)
	ends[4095] = num(524287 + 4095)
	evalIs(t, full(13, ends...), most)
	ends[4095] = num(524287 + 4096)
	evalFails(t, "one more than the greatest number", at(full(13, ends...), 5, 6), fault(api.ErrOver, 5, 6))
}

func TestEvalOfExprsThatMayNotBe(t *testing.T) {
	for what, x := range wrongExprs() {
		x = at(x, 3, 4)
		evalFails(t, what, x, fault(api.ErrArg, 0, 0))
		evalFails(t, what, x, fault(api.ErrArg, 0, 0), constants("a", 1)...)
		evalFails(t, "a negated "+what, at(neg(x), 1, 2), fault(api.ErrArg, 0, 0), constants("a", 1)...)
		evalFails(t, "a name and "+what, two(api.EAdd, at(name("zz"), 1, 2), x), fault(api.ErrArg, 0, 0))
		evalFails(t, what+" and a wrong environment", x, fault(api.ErrArg, 0, 0), constants("use", 1)...)
	}
}

func TestEnvironments(t *testing.T) {
	evalIs(t, num(3), 3)
	evalIs(t, num(3), 3, []api.Const{}...)
	evalIs(t, num(3), 3, constants("a", 1)...)
	evalIs(t, name("b"), 2, constants("a", 1, "b", 2, "c", 3)...)
	evalIs(t, name("b"), 2, constants("c", 3, "b", 2, "a", 1)...)
	evalIs(t, name("abcdefghijklmnop"), most, constants("abcdefghijklmnop", most)...)
	evalIs(t, name("z9"), -most, constants("z9", -most, "z", 1)...)
	evalIs(t, name("uses"), 0, constants("us", 1, "uses", 0)...)
	evalIs(t, two(api.ESub, name("a"), name("a1")), 1-2, constants("a1", 2, "a", 1, "aa", 7)...)
	evalFails(t, "another name", at(name("a"), 1, 1), fault(api.ErrName, 1, 1), constants("aa", 1, "b", 1, "a0", 2)...)
	evalIs(t, two(api.EAdd, name("a"), name("b")), 0, constants("a", most, "b", -most)...)
	evalFails(t, "a sum", at(two(api.EAdd, name("a"), name("b")), 2, 3), fault(api.ErrOver, 2, 3), constants("a", most, "b", 1)...)
}

func TestEnvironmentsThatMayNotBe(t *testing.T) {
	wrong := [][]api.Const{
		constants("a", 1, "a", 1), constants("a", 1, "a", 2), constants("a", 1, "b", 2, "c", 3, "a", 1),
		constants("b", 1, "a", 2, "a", 3), constants("b", 0, "b", 0), {{}}, {{}, {}}, {{N: 5}},
	}
	for _, text := range badNames() {
		wrong = append(wrong, constants(text, 1), constants("a", 1, text, 1), constants(text, 1, "a", 1))
	}
	for _, n := range beyond() {
		wrong = append(wrong, constants("a", n), constants("b", n, "a", 1), constants("a", 1, "b", n))
	}
	for _, env := range wrong {
		for _, text := range []string{"1", "a", "zz", "1 / 0", "2147483647 + 1"} {
			evalFails(t, text, read(t, text), fault(api.ErrArg, 0, 0), env...)
		}
	}
	evalIs(t, num(1), 1, constants("a", most, "b", -most, "c", 0)...)
}

// Constants that do not stand in the expression must be right, too; there may
// be very many of them.
func TestEnvironmentOfVeryMany(t *testing.T) {
	var env []api.Const
	for i := range 26 * 26 * 26 {
		text := string([]byte{'a' + byte(i/676), 'a' + byte(i/26%26), 'a' + byte(i%26)})
		if !strings.Contains(allWords, text) {
			env = append(env, api.Const{Name: text, N: i})
		}
	}
	evalIs(t, two(api.EMul, name("aab"), name("zzz")), 17575, env...)
	evalFails(t, "another name", at(name("ab"), 1, 1), fault(api.ErrName, 1, 1), env...)
	evalFails(t, "a name twice", num(1), fault(api.ErrArg, 0, 0), append(env, env[0])...)
	evalFails(t, "no name at the end", num(1), fault(api.ErrArg, 0, 0), append(env, api.Const{})...)
}

func TestEvalOfAnyExprs(t *testing.T) {
	const all = 40000
	met := map[api.Errno]int{}
	for seed := range all {
		s := seeded(seed)
		x, env := placed(s.expr(1+s.below(8)), seed), s.env()
		want, wf := slowEval(x, env...)
		if got, f := number.Eval(x, env...); got != want || f != wf {
			t.Fatalf("Eval(%s; %v) = %d, %v; want %d, %v", short(x), env, got, f, want, wf)
		}
		met[wf.Code]++
	}
	for _, e := range []api.Errno{api.OK, api.ErrName, api.ErrZero, api.ErrOver} {
		if met[e] < all/50 {
			t.Errorf("%v is met %d times alone", e, met[e])
		}
	}
}
