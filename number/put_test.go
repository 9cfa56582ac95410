package number_test

import (
	"slices"
	"strings"
	"testing"

	"recoup/api"
	"recoup/number"
	"recoup/tree"
)

// P12.3: Put.

// slowPut is the row of what Put makes, and how deep it is.
func slowPut(x api.Expr, text string, y api.Expr) ([]flat, int) {
	var made []flat
	other := row(y)
	for _, part := range row(x) {
		if part.name == text {
			made = append(made, other...)
		} else {
			made = append(made, part)
		}
	}
	deep := depth(x)
	for within, found := range holds(x, text) {
		if found > 0 {
			deep = max(deep, within+depth(y)-1)
		}
	}
	return made, deep
}

// holds tells of each depth how often a name stands there.
func holds(x api.Expr, text string) []int {
	made := make([]int, depth(x)+1)
	var look func(x api.Expr, within int)
	look = func(x api.Expr, within int) {
		if x.Name == text {
			made[within]++
		}
		for _, part := range x.L {
			look(part, within+1)
		}
	}
	look(x, 1)
	return made
}

func TestPutOfExamples(t *testing.T) {
	got, e := number.Put(read(t, "a + 1"), "a", read(t, "2 * 3"))
	if text, _ := tree.ExprText(got); text != "( ( 2 * 3 ) + 1 )" || e != api.OK {
		t.Errorf("Put = %s, %v", text, e)
	}
}

// Each part of x stands where it did, each part of y where it did in y.
func TestPutKeepsPlaces(t *testing.T) {
	x, y := read(t, "a\n+ 1"), read(t, "\n\n\n2 *\n   b")
	product := at(two(api.EMul, at(num(2), 4, 1), at(name("b"), 5, 4)), 4, 3)
	putIs(t, x, "a", y, at(two(api.EAdd, product, at(num(1), 2, 3)), 2, 1))
	putIs(t, y, "b", x, at(two(api.EMul, at(num(2), 4, 1), x), 4, 3))
	putIs(t, at(name("a"), 8, 9), "a", at(num(3), 1, 2), at(num(3), 1, 2))
	putIs(t, at(name("a"), 8, 9), "a", num(3), num(3))
	putIs(t, at(neg(at(name("a"), 8, 9)), -1, 0), "a", at(name("a"), 1, 2), at(neg(at(name("a"), 1, 2)), -1, 0))
	sum := placed(two(api.EAdd, name("a"), two(api.ESub, name("a"), name("b"))), 100)
	want := at(two(api.EAdd, y, at(two(api.ESub, y, at(name("b"), 105, -315)), 103, -309)), 101, -303)
	putIs(t, sum, "a", y, want)
}

func TestPutOfEachKind(t *testing.T) {
	for _, y := range []api.Expr{num(7), name("a"), name("b"), neg(num(1)), two(api.EDiv, name("a"), num(0))} {
		y = placed(y, 50)
		putIs(t, num(1), "a", y, num(1))
		putIs(t, name("a"), "a", y, y)
		putIs(t, name("b"), "a", y, name("b"))
		putIs(t, name("aa"), "a", y, name("aa"))
		putIs(t, name("a"), "aa", y, name("a"))
		putIs(t, neg(name("a")), "a", y, neg(y))
		putIs(t, neg(num(1)), "a", y, neg(num(1)))
		for _, kind := range pairKinds {
			putIs(t, two(kind, name("a"), num(1)), "a", y, two(kind, y, num(1)))
			putIs(t, two(kind, num(1), name("a")), "a", y, two(kind, num(1), y))
			putIs(t, two(kind, name("a"), name("a")), "a", y, two(kind, y, y))
			putIs(t, two(kind, name("b"), num(1)), "a", y, two(kind, name("b"), num(1)))
			x := two(kind, neg(two(kind, name("a"), name("b"))), two(kind, name("c"), neg(name("a"))))
			putIs(t, x, "a", y, two(kind, neg(two(kind, y, name("b"))), two(kind, name("c"), neg(y))))
			putIs(t, x, "c", y, two(kind, neg(two(kind, name("a"), name("b"))), two(kind, y, neg(name("a")))))
			putIs(t, x, "d", y, x)
		}
	}
}

// What is put in is not gone through again.
func TestPutOfExprsThatHoldTheName(t *testing.T) {
	double := two(api.EMul, name("a"), num(2))
	putIs(t, name("a"), "a", double, double)
	putIs(t, two(api.EAdd, name("a"), name("a")), "a", double, two(api.EAdd, double, double))
	putIs(t, double, "a", double, two(api.EMul, double, num(2)))
	putIs(t, neg(name("a")), "a", name("a"), neg(name("a")))
}

// A text's tokens stand apart: where the name was, the other text is.
func TestPutAsTexts(t *testing.T) {
	for seed := range 3000 {
		s := seeded(seed)
		x, y, put := s.expr(1+s.below(5)), s.expr(1+s.below(5)), one(s, someNames)
		text, _ := tree.ExprText(x)
		other, _ := tree.ExprText(y)
		tokens := strings.Split(text, " ")
		for i, token := range tokens {
			if token == put {
				tokens[i] = other
			}
		}
		got, e := number.Put(x, put, y)
		if want := strings.Join(tokens, " "); e != api.OK || len(want) > api.MaxText {
			t.Fatalf("Put(%s, %s, %s): %v", text, put, other, e)
		} else if text, _ = tree.ExprText(got); text != want {
			t.Fatalf("Put = %s; want %s", text, want)
		}
	}
}

func TestPutOfAnyExprs(t *testing.T) {
	const all = 20000
	limit, deeper := 0, 0
	for seed := range all {
		s := seeded(seed)
		x, y, put := placed(s.expr(1+s.below(11)), 0), placed(s.expr(1+s.below(11)), 5000), one(s, someNames)
		want, deep := slowPut(x, put, y)
		got, e := number.Put(x, put, y)
		if len(want) > 8192 || deep > 16 {
			putFails(t, "too much", x, put, y, api.ErrLimit)
			limit++
		} else if !slices.Equal(row(got), want) || e != api.OK || depth(got) != deep {
			t.Fatalf("Put(%s, %s, %s) = %s, %v", short(x), put, short(y), short(got), e)
		} else if deep > depth(x) {
			deeper++
		}
	}
	if limit < all/50 || deeper < all/50 {
		t.Errorf("%d are too much, %d deeper than they were", limit, deeper)
	}
}

func TestPutAsDeepAsMayBe(t *testing.T) {
	for deep := 1; deep <= api.MaxNest; deep++ {
		x := nested(deep, name("a"))
		y := nested(api.MaxNest+1-deep, num(1))
		want := nested(deep, y)
		putIs(t, x, "a", y, want)
		putFails(t, "one too deep", x, "a", nested(api.MaxNest+2-deep, num(1)), map[bool]api.Errno{true: api.ErrArg, false: api.ErrLimit}[deep == 1])
		// One as deep as may be stands where nothing is put.
		putIs(t, x, "b", nested(api.MaxNest, num(1)), x)
	}
	shallow := two(api.EAdd, nested(15, num(1)), name("a"))
	putIs(t, shallow, "a", nested(15, num(2)), two(api.EAdd, nested(15, num(1)), nested(15, num(2))))
	putFails(t, "one too deep at the right", shallow, "a", nested(16, num(2)), api.ErrLimit)
	shallow = two(api.EAdd, name("a"), nested(15, num(1)))
	putFails(t, "one too deep at the left", shallow, "a", nested(16, num(2)), api.ErrLimit)
	// The name stands at two depths, at one of which there is no room.
	putFails(t, "one too deep at one place", two(api.EMul, name("a"), neg(name("a"))), "a", nested(15, num(1)), api.ErrLimit)
	putIs(t, two(api.EMul, name("a"), neg(name("a"))), "a", nested(14, num(1)), two(api.EMul, nested(14, num(1)), neg(nested(14, num(1)))))
}

func TestPutOfAsManyPartsAsMayBe(t *testing.T) {
	ends := slices.Repeat([]api.Expr{num(1)}, 4096)
	ends[77] = name("a")
	x := full(13, ends...) // 8191
	ends[77] = neg(num(5))
	putIs(t, x, "a", neg(num(5)), full(13, ends...))
	putFails(t, "one part too many", x, "a", neg(neg(num(5))), api.ErrLimit)
	putFails(t, "one part too many", x, "a", two(api.EAdd, num(1), num(2)), api.ErrLimit)
	ends[77] = name("b")
	putIs(t, x, "a", name("b"), full(13, ends...))
	putFails(t, "one part too many", neg(x), "a", neg(num(5)), api.ErrLimit)
	putIs(t, neg(x), "a", num(9), neg(full(13, slices.Replace(slices.Clone(ends), 77, 78, num(9))...)))
	// As many as may be, put twice; put where nothing but the name is; put
	// where the name is not.
	big := neg(full(13, num(1)))
	putIs(t, name("a"), "a", big, big)
	putFails(t, "one part too many", neg(name("a")), "a", big, api.ErrLimit)
	putIs(t, num(1), "a", big, num(1))
	half := full(12, num(1)) // 4095
	putIs(t, two(api.EAdd, name("a"), name("a")), "a", half, two(api.EAdd, half, half))
	putIs(t, two(api.EAdd, name("a"), neg(name("a"))), "a", half, two(api.EAdd, half, neg(half)))
	putFails(t, "one part too many", two(api.EAdd, neg(name("a")), neg(name("a"))), "a", half, api.ErrLimit)
	// All that there could be.
	putFails(t, "as much as can be", full(13, name("a")), "a", big, api.ErrLimit)
	putFails(t, "twice as much", full(13, name("a")), "a", neg(num(1)), api.ErrLimit)
	putIs(t, full(13, name("a")), "a", name("b"), full(13, name("b")))
	putIs(t, full(7, name("a")), "a", full(7, num(1)), full(13, num(1)))
	putFails(t, "twice as much", full(7, name("a")), "a", full(8, num(1)), api.ErrLimit)
}

func TestPutOfWrongNames(t *testing.T) {
	for _, text := range badNames() {
		putFails(t, "a wrong name", name("a"), text, num(1), api.ErrArg)
		putFails(t, "a wrong name", num(1), text, num(1), api.ErrArg)
		putFails(t, "a wrong name and too much", nested(16, name("a")), text, nested(16, num(1)), api.ErrArg)
	}
	for _, text := range []string{"a", "z9", "uses", "abcdefghijklmnop"} {
		putIs(t, two(api.EAdd, name(text), num(2)), text, num(1), two(api.EAdd, num(1), num(2)))
	}
}

// What may not be is told ahead of what would be too much.
func TestPutOfExprsThatMayNotBe(t *testing.T) {
	deep := nested(api.MaxNest, name("a"))
	for what, x := range wrongExprs() {
		putFails(t, what, x, "a", num(1), api.ErrArg)
		putFails(t, what, two(api.EAdd, name("a"), x), "a", num(1), api.ErrArg)
		putFails(t, what+" put in", name("a"), "a", x, api.ErrArg)
		putFails(t, what+" put nowhere", num(1), "a", x, api.ErrArg)
		putFails(t, what+" put deep inside", deep, "a", x, api.ErrArg)
		putFails(t, what+" with too much", two(api.EAdd, name("a"), x), "a", deep, api.ErrArg)
		putFails(t, what+" twice", x, "a", x, api.ErrArg)
		putFails(t, what+" for a wrong name", x, "use", x, api.ErrArg)
	}
}
