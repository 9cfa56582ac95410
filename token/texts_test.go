package token_test

import (
	"fmt"
	"math/big"
	"regexp"
	"slices"
	"strconv"
	"strings"
	"testing"

	"recoup/api"
	"recoup/token"
)

// What the package must tell is found out here in other ways: what a text goes
// on with by patterns, numbers by whole ones of any size, places by the lines
// that a text is split into.

const (
	allSigns = "=;,()[]+-*/%"
	allWords = "code const cross domains join list local matrix place product pyramid reed row spiral spread tolerate use"
)

// source tells numbers by a simple rule that differs from seed to seed.
type source struct {
	state uint64
}

func seeded(seed int) *source {
	return &source{uint64(seed)*0x9e3779b97f4a7c15 + 12345}
}

func (s *source) word() uint64 {
	s.state = s.state*6364136223846793005 + 1442695040888963407
	return s.state ^ s.state>>32
}

// below is a number from 0 to ahead of n.
func (s *source) below(n int) int {
	return int(s.word() >> 1 % uint64(n))
}

// one is any one of a list.
func one[T any](s *source, list []T) T {
	return list[s.below(len(list))]
}

// some is a text of at most so many of the pieces.
func (s *source) some(pieces []string, most int) string {
	var made strings.Builder
	for range s.below(most + 1) {
		made.WriteString(one(s, pieces))
	}
	return made.String()
}

func name(text string) api.Token { return api.Token{Kind: api.TName, Text: text} }
func word(text string) api.Token { return api.Token{Kind: api.TWord, Text: text} }
func sign(text string) api.Token { return api.Token{Kind: api.TSign, Text: text} }
func number(n int) api.Token     { return api.Token{Kind: api.TNumber, N: n} }

// at is a token with its place.
func at(line, col int, t api.Token) api.Token {
	t.Line, t.Col = line, col
	return t
}

func wordList() []string {
	return strings.Split(allWords, " ")
}

func signList() []string {
	return strings.Split(allSigns, "")
}

// tokens are all words and signs, and names and numbers of each size.
func tokens() []api.Token {
	var made []api.Token
	for _, w := range wordList() {
		made = append(made, word(w), name(w+"s"), name(w[:len(w)-1]), name(w+"0"))
	}
	for _, s := range signList() {
		made = append(made, sign(s))
	}
	long := "abcdefghijklmnopqrstuvwxyz0123456789"
	for size := 1; size <= api.MaxName; size++ {
		made = append(made, name(long[:size]), name("z"+long[36-size+1:]), name(strings.Repeat("a", size)))
	}
	for n := 1; n < api.MaxNumber/10; n *= 10 {
		made = append(made, number(n-1), number(n), number(7*n))
	}
	return append(made, number(1000000000), number(api.MaxNumber-1), number(api.MaxNumber))
}

// Patterns of what a text may go on with, and of a whole name.
var (
	passed    = regexp.MustCompile(`^(?:[ \t\n]|#[^\n]*)+`)
	lettered  = regexp.MustCompile(`^[a-z][a-z0-9]*`)
	digits    = regexp.MustCompile(`^[0-9]+`)
	signed    = regexp.MustCompile(`^[=;,()\[\]+\-*/%]`)
	wholeName = regexp.MustCompile(`^[a-z][a-z0-9]{0,15}$`)
)

func slowMay(t api.Token) bool {
	isWord := slices.Contains(wordList(), t.Text)
	switch t.Kind {
	case api.TName:
		return wholeName.MatchString(t.Text) && !isWord && t.N == 0
	case api.TWord:
		return isWord && t.N == 0
	case api.TNumber:
		return t.Text == "" && t.N >= 0 && t.N <= 2147483647
	case api.TSign:
		return slices.Contains(signList(), t.Text) && t.N == 0
	}
	return false
}

// slowWhere counts the lines that what stands ahead is split into.
func slowWhere(text string, at int) (line, col int) {
	lines := strings.Split(text[:max(0, min(at, len(text)))], "\n")
	return len(lines), len(lines[len(lines)-1]) + 1
}

func slowCut(text string) ([]api.Token, api.Fault) {
	if len(text) > 65536 {
		return nil, api.Fault{Code: api.ErrLimit, Line: 1, Col: 1}
	}
	var made []api.Token
	for done := 0; ; {
		done += len(passed.FindString(text[done:]))
		rest := text[done:]
		if rest == "" {
			return made, api.Fault{}
		}
		size, t := slowNext(rest)
		line, col := slowWhere(text, done+max(0, -size))
		if size <= 0 {
			return nil, api.Fault{Code: api.ErrLex, Line: line, Col: col}
		}
		made = append(made, at(line, col, t))
		done += size
	}
}

// slowNext is how many bytes the first token has; else less by how many of
// them the fault stands behind.
func slowNext(rest string) (int, api.Token) {
	if s := signed.FindString(rest); s != "" {
		return 1, sign(s)
	}
	if s := lettered.FindString(rest); s != "" {
		if t := word(s); slowMay(t) {
			return len(s), t
		}
		if t := name(s); slowMay(t) {
			return len(s), t
		}
		return 0, api.Token{}
	}
	s := digits.FindString(rest)
	n, ok := new(big.Int).SetString(s, 10)
	switch {
	case !ok, n.String() != s, n.Cmp(big.NewInt(2147483647)) > 0:
		return 0, api.Token{}
	case lettered.MatchString(rest[len(s):]):
		return -len(s), api.Token{}
	}
	return len(s), number(int(n.Int64()))
}

func slowJoin(l []api.Token) (string, api.Errno) {
	var texts []string
	for _, t := range l {
		if !slowMay(t) {
			return "", api.ErrArg
		}
		if t.Kind == api.TNumber {
			t.Text = big.NewInt(int64(t.N)).String()
		}
		texts = append(texts, t.Text)
	}
	joined := strings.Join(texts, " ")
	if len(joined) > 65536 {
		return "", api.ErrLimit
	}
	return joined, api.OK
}

// bare are tokens without their places.
func bare(l []api.Token) []api.Token {
	made := slices.Clone(l)
	for i := range made {
		made[i].Line, made[i].Col = 0, 0
	}
	return made
}

// short keeps what a test tells readable.
func short(text string) string {
	if len(text) > 60 {
		return text[:60] + ".."
	}
	return text
}

// few does so for tokens.
func few(l []api.Token) string {
	told := strconv.QuoteToASCII(fmt.Sprint(l[:min(len(l), 12)]))
	if len(l) > 12 {
		told += " .."
	}
	return told
}

func cutIs(t *testing.T, text string, want ...api.Token) {
	t.Helper()
	if l, f := token.Cut(text); !slices.Equal(l, want) || f != (api.Fault{}) {
		t.Errorf("Cut(%q) = %s, %v; want %s", short(text), few(l), f, few(want))
	}
}

func cutFails(t *testing.T, text string, e api.Errno, line, col int) {
	t.Helper()
	want := api.Fault{Code: e, Line: line, Col: col}
	if l, f := token.Cut(text); len(l) != 0 || f != want {
		t.Errorf("Cut(%q) = %s, %v; want %v", short(text), few(l), f, want)
	}
}

// cutIsAsFound holds a cut against the slow one.
func cutIsAsFound(t *testing.T, text string) {
	t.Helper()
	l, f := token.Cut(text)
	if want, fault := slowCut(text); !slices.Equal(l, want) || f != fault {
		t.Errorf("Cut(%q) = %s, %v; want %s, %v", short(text), few(l), f, few(want), fault)
	}
}

func joinIs(t *testing.T, want string, l ...api.Token) {
	t.Helper()
	if s, e := token.Join(l...); s != want || e != api.OK {
		t.Errorf("Join(%s) = %q, %v; want %q", few(l), short(s), e, short(want))
	}
}

func joinFails(t *testing.T, e api.Errno, l ...api.Token) {
	t.Helper()
	if s, got := token.Join(l...); s != "" || got != e {
		t.Errorf("Join(%s) = %q, %v; want %v", few(l), short(s), got, e)
	}
}

func whereIs(t *testing.T, text string, at, line, col int) {
	t.Helper()
	if l, c := token.Where(text, at); l != line || c != col {
		t.Errorf("Where(%q, %d) = %d, %d; want %d, %d", short(text), at, l, c, line, col)
	}
}
