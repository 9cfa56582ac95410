package token_test

import (
	"math"
	"slices"
	"strings"
	"testing"

	"recoup/api"
	"recoup/token"
)

// P9.1
func TestWords(t *testing.T) {
	l := token.Words()
	if !slices.Equal(l, wordList()) {
		t.Errorf("Words = %q", l)
	}
	for i := 1; i < len(l); i++ {
		if l[i-1] >= l[i] {
			t.Errorf("%q is not below %q", l[i-1], l[i])
		}
	}
}

func TestSigns(t *testing.T) {
	if s := token.Signs(); s != allSigns || len(s) != 12 {
		t.Errorf("Signs = %q", s)
	}
}

func mayIs(t *testing.T, x api.Token, want bool) {
	t.Helper()
	if token.May(x) != want {
		t.Errorf("May(%v) is not %v", x, want)
	}
}

func TestMayOfAllThatMayBe(t *testing.T) {
	for _, x := range tokens() {
		mayIs(t, x, true)
	}
}

// The place is of no moment, whatever it is.
func TestMayDoesNotAskForThePlace(t *testing.T) {
	for _, place := range []int{1, 7, -1, math.MaxInt, math.MinInt} {
		for _, x := range []api.Token{name("a"), word("use"), number(0), sign(";")} {
			mayIs(t, at(place, 0, x), true)
			mayIs(t, at(0, place, x), true)
			mayIs(t, at(place, place, x), true)
		}
		mayIs(t, at(place, place, api.Token{}), false)
	}
}

// badTokens may not be, each by one thing that is wrong.
func badTokens() []api.Token {
	long := strings.Repeat("a", api.MaxName+1)
	made := []api.Token{
		{}, {Text: "a"}, {N: 1}, {Text: "use"}, {Text: ";"},
		{Kind: api.TSign + 1}, {Kind: api.TSign + 1, Text: "a"}, {Kind: 255, Text: ";"}, {Kind: 255, N: 1},
		name(""), name("1"), name("1a"), name("A"), name("aB"), name("a_b"), name("a b"), name("a "), name(" a"),
		name("a\n"), name("a\x00"), name("é"), name("a\xff"), name("\x80"), name("`"), name("{"), name("/"), name(":"),
		name("a:"), name("a/"), name("a`"), name("a{"), name(";"), name(long), name(long + long), name("_"),
		word(""), word("a"), word("uses"), word("us"), word("Use"), word("USE"), word("use "), word(" use"), word(";"),
		word("use\n"), word("reed("), word("code const"), word("codeconst"), word("1"),
		number(-1), number(-2), number(math.MinInt), number(api.MaxNumber + 1), number(math.MaxInt), number(math.MinInt32),
		sign(""), sign("=;"), sign("=="), sign("()"), sign(" "), sign("#"), sign("\n"), sign("\t"), sign("a"), sign("1"),
		sign("!"), sign("&"), sign("."), sign(":"), sign("<"), sign("{"), sign("\x00"), sign("\xff"), sign("= "), sign(allSigns),
		{Kind: api.TName, Text: "a", N: 1}, {Kind: api.TName, Text: "a", N: -1}, {Kind: api.TName, N: 1},
		{Kind: api.TWord, Text: "use", N: 1}, {Kind: api.TWord, Text: "use", N: -1}, {Kind: api.TWord, N: 1},
		{Kind: api.TNumber, Text: "1", N: 1}, {Kind: api.TNumber, Text: "1"}, {Kind: api.TNumber, Text: "a"}, {Kind: api.TNumber, Text: "0"},
		{Kind: api.TSign, Text: ";", N: 1}, {Kind: api.TSign, Text: ";", N: -1}, {Kind: api.TSign, N: 1},
	}
	for _, w := range wordList() {
		made = append(made, name(w), sign(w), word(w+"s"), word(w[:len(w)-1]), word(w[1:]))
	}
	return made
}

func TestMayOfWhatMayNotBe(t *testing.T) {
	for _, x := range badTokens() {
		mayIs(t, x, false)
	}
}

// One byte, as a token of each kind, and as the last and the first of a name.
func TestMayOfEachByte(t *testing.T) {
	for b := range 256 {
		text := string([]byte{byte(b)})
		for kind := range 256 {
			x := api.Token{Kind: api.TokenKind(kind), Text: text}
			mayIs(t, x, slowMay(x))
		}
		for _, long := range []string{"a" + text, text + "a", "a" + text + "a", "use" + text, text + ";", ";" + text} {
			for kind := api.NoToken; kind <= api.TSign+1; kind++ {
				x := api.Token{Kind: kind, Text: long}
				mayIs(t, x, slowMay(x))
			}
		}
	}
}

func TestMayOfEachFieldWithEachOther(t *testing.T) {
	numbers := []int{0, 1, -1, 10, api.MaxNumber - 1, api.MaxNumber, api.MaxNumber + 1, math.MaxInt, math.MinInt}
	texts := append([]string{"", "a", "a1", "1", ";", "use", "%", "\n", strings.Repeat("b", 16), strings.Repeat("b", 17)}, wordList()...)
	for kind := api.NoToken; kind <= api.TSign+1; kind++ {
		for _, n := range numbers {
			for _, text := range texts {
				x := api.Token{Kind: kind, Text: text, N: n, Line: 3}
				mayIs(t, x, slowMay(x))
			}
		}
	}
}
