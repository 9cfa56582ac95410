package number_test

import (
	"fmt"
	"slices"
	"testing"

	"recoup/api"
	"recoup/number"
)

// P12.3: Names.

func TestNamesOfExamples(t *testing.T) {
	namesAre(t, read(t, "b + a * b"), "a", "b")
}

func TestNamesOfEachKind(t *testing.T) {
	namesAre(t, num(1))
	namesAre(t, name("a"), "a")
	namesAre(t, neg(num(1)))
	namesAre(t, neg(name("a")), "a")
	for _, kind := range pairKinds {
		namesAre(t, two(kind, num(1), num(2)))
		namesAre(t, two(kind, name("a"), num(2)), "a")
		namesAre(t, two(kind, num(2), name("a")), "a")
		namesAre(t, two(kind, name("a"), name("a")), "a")
		namesAre(t, two(kind, name("b"), name("a")), "a", "b")
		namesAre(t, two(kind, neg(two(kind, name("c"), num(1))), two(kind, name("b"), neg(name("c")))), "b", "c")
	}
}

// They rise byte by byte: digits ahead of letters, a beginning ahead of what
// it begins, whatever the length.
func TestNamesRise(t *testing.T) {
	want := []string{"a", "a0", "a00", "a1", "a10", "a2", "a9", "aa", "aaaaaaaaaaaaaaa", "aaaaaaaaaaaaaaaa", "ab", "az", "b", "b0", "ba", "z", "z0", "zz", "zzzzzzzzzzzzzzzz"}
	for seed := range 200 {
		s := seeded(seed)
		ends := []api.Expr{}
		for _, text := range want {
			ends = append(ends, name(text))
		}
		for range 13 {
			ends = append(ends, name(one(s, want)))
		}
		for i := range ends {
			j := s.below(i + 1)
			ends[i], ends[j] = ends[j], ends[i]
		}
		namesAre(t, full(6, ends...), want...)
	}
}

func TestNamesAtTheLimits(t *testing.T) {
	namesAre(t, nested(api.MaxNest, name("a")), "a")
	ends, want := make([]api.Expr, 4096), make([]string, 4096)
	for i := range ends {
		want[i] = fmt.Sprintf("n%04d", i)
		ends[4095-i] = name(want[i])
	}
	namesAre(t, full(13, ends...), want...)
	namesAre(t, neg(full(13, ends...)), want...)
	namesAre(t, full(13, name("a")), "a")
}

func TestNamesOfExprsThatMayNotBe(t *testing.T) {
	for what, x := range wrongExprs() {
		for _, x := range []api.Expr{x, neg(x), two(api.EAdd, name("a"), x), two(api.EMul, x, name("a"))} {
			if got, e := number.Names(x); len(got) != 0 || e != api.ErrArg {
				t.Errorf("Names of %s = %s, %v", what, short(got), e)
			}
		}
	}
}

func TestNamesOfAnyExprs(t *testing.T) {
	for seed := range 5000 {
		s := seeded(seed)
		x := placed(s.expr(1+s.below(8)), seed)
		var want []string
		for _, part := range row(x) {
			if part.name != "" {
				want = append(want, part.name)
			}
		}
		slices.Sort(want)
		namesAre(t, x, slices.Compact(want)...)
	}
}
