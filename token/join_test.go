package token_test

import (
	"math"
	"slices"
	"strings"
	"testing"

	"recoup/api"
	"recoup/token"
)

// P9.3
func TestJoinOfExamples(t *testing.T) {
	joinIs(t, "use x ;", word("use"), name("x"), sign(";"))
	joinFails(t, api.ErrArg, name("use"))
}

func TestJoin(t *testing.T) {
	joinIs(t, "")
	joinIs(t, "", []api.Token{}...)
	joinIs(t, "- 1", sign("-"), number(1))
	joinIs(t, "a = reed ( 4 , 2 ) ;", name("a"), sign("="), word("reed"), sign("("), number(4), sign(","), number(2), sign(")"), sign(";"))
	joinIs(t, "0 2147483647 10", number(0), number(api.MaxNumber), number(10))
	joinIs(t, "code const a", word("code"), word("const"), name("a"))
	for _, x := range tokens() {
		text := x.Text
		if x.Kind == api.TNumber {
			text, _ = slowJoin([]api.Token{x})
		}
		joinIs(t, text, x)
		joinIs(t, text+" "+text, x, x)
		joinIs(t, "( "+text+" )", sign("("), x, sign(")"))
	}
}

// Where the tokens stood is of no moment.
func TestJoinDoesNotAskForThePlace(t *testing.T) {
	joinIs(t, "a b", at(9, 9, name("a")), at(1, 1, name("b")))
	joinIs(t, "a b", at(-1, math.MinInt, name("a")), at(math.MaxInt, 0, name("b")))
}

func TestJoinOfWhatMayNotBe(t *testing.T) {
	for _, x := range badTokens() {
		joinFails(t, api.ErrArg, x)
		joinFails(t, api.ErrArg, x, name("a"))
		joinFails(t, api.ErrArg, name("a"), x)
		joinFails(t, api.ErrArg, name("a"), sign("="), x, sign(";"))
	}
}

func TestJoinOfAsMuchAsMayBe(t *testing.T) {
	half := slices.Repeat([]api.Token{sign(";")}, api.MaxText/2)
	text := strings.Repeat("; ", api.MaxText/2)
	ahead, signs := half[:len(half)-1], text[:len(text)-2]
	joinIs(t, text[:len(text)-1], half...)
	for _, x := range []api.Token{name("ab"), number(10), number(99)} {
		last, _ := slowJoin([]api.Token{x})
		joinIs(t, signs+last, append(slices.Clone(ahead), x)...)
	}
	for _, x := range []api.Token{name("abc"), word("use"), number(100), number(api.MaxNumber), name("abcdefghijklmnop")} {
		joinFails(t, api.ErrLimit, append(slices.Clone(ahead), x)...)
	}
	joinFails(t, api.ErrLimit, append(slices.Clone(half), sign(";"))...)
	joinFails(t, api.ErrLimit, slices.Repeat(half, 10)...)
	joinFails(t, api.ErrLimit, slices.Repeat([]api.Token{number(api.MaxNumber)}, api.MaxText)...)
	// Sixteen letters and a blank, so many times, and what is left.
	most := slices.Repeat([]api.Token{name("abcdefghijklmnop")}, api.MaxText/17)
	left := api.MaxText - 17*len(most)
	joinIs(t, strings.Repeat("abcdefghijklmnop ", len(most))+strings.Repeat("z", left), append(most, name(strings.Repeat("z", left)))...)
	joinFails(t, api.ErrLimit, append(most, name(strings.Repeat("z", left+1)))...)
}

// A token that may not be is told ahead of the limit, wherever it stands.
func TestJoinOfTwoErrors(t *testing.T) {
	many := slices.Repeat([]api.Token{sign(";")}, api.MaxText)
	joinFails(t, api.ErrLimit, many...)
	for _, place := range []int{0, 1, api.MaxText/2 - 1, api.MaxText / 2, api.MaxText/2 + 1, api.MaxText - 1} {
		for _, x := range []api.Token{{}, name("use"), number(-1), name(strings.Repeat("a", api.MaxText+1))} {
			l := slices.Clone(many)
			l[place] = x
			joinFails(t, api.ErrArg, l...)
		}
	}
}

func TestJoinOfAnyTokens(t *testing.T) {
	all, bad := tokens(), badTokens()
	for seed := range 3000 {
		from := seeded(seed)
		var l []api.Token
		for range from.below(12) {
			l = append(l, at(from.below(9), from.below(9), one(from, all)))
		}
		if len(l) > 0 && seed%5 == 0 {
			l[from.below(len(l))] = one(from, bad)
		}
		want, e := slowJoin(l)
		if got, told := token.Join(l...); got != want || told != e {
			t.Errorf("Join(%v) = %q, %v; want %q, %v", l, got, told, want, e)
		}
	}
}

func TestWhereOfExamples(t *testing.T) {
	for _, c := range [][3]int{{0, 1, 1}, {1, 1, 2}, {2, 2, 1}, {3, 2, 2}, {9, 2, 2}, {-1, 1, 1}} {
		whereIs(t, "a\nb", c[0], c[1], c[2])
	}
}

func TestWhereAtTheEnds(t *testing.T) {
	for _, text := range []string{"", "a", "\n", "\n\n", "a\n", "\na", "abc\n\n\tde", "\r\n\r", "#\x00\xff\nä\n", strings.Repeat("xyz\n", 100)} {
		line, col := slowWhere(text, len(text))
		for _, at := range []int{len(text), len(text) + 1, len(text) + 9, math.MaxInt32, math.MaxInt} {
			whereIs(t, text, at, line, col)
		}
		for _, at := range []int{0, -1, -2, -len(text), math.MinInt32, math.MinInt} {
			whereIs(t, text, at, 1, 1)
		}
		for at := range len(text) {
			line, col = slowWhere(text, at)
			whereIs(t, text, at, line, col)
		}
	}
	whereIs(t, "a\n", 2, 2, 1)
	whereIs(t, "\n", 0, 1, 1)
	whereIs(t, "\n", 1, 2, 1)
	whereIs(t, "", 0, 1, 1)
}

// A text may be of any length, and of bytes that Cut does not take.
func TestWhereOfLongTexts(t *testing.T) {
	text := strings.Repeat("A!\n\xff", api.MaxText)
	for _, at := range []int{0, 2, 3, 4, api.MaxText, len(text) - 2, len(text)} {
		line, col := slowWhere(text, at)
		whereIs(t, text, at, line, col)
	}
}

// Where tells of a token's first byte the place that Cut tells.
func TestWhereIsAsCutTells(t *testing.T) {
	for seed := range 500 {
		text := seeded(seed).some([]string{"\n", " ", "#a\n", "a ", "; ", "7\n", "use(", "\t"}, 20)
		byPlace := map[[2]int]int{}
		for at := range len(text) {
			line, col := token.Where(text, at)
			byPlace[[2]int{line, col}] = at
		}
		l, f := token.Cut(text)
		if len(byPlace) != len(text) || f != (api.Fault{}) {
			t.Fatalf("%q has %d places, and %v", text, len(byPlace), f)
		}
		for _, x := range l {
			alone, _ := slowJoin([]api.Token{x})
			at, found := byPlace[[2]int{x.Line, x.Col}]
			if !found || !strings.HasPrefix(text[at:], alone) {
				t.Errorf("Cut(%q) tells %v, which stands elsewhere", text, x)
			}
		}
	}
}
