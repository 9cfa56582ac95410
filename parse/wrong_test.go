package parse_test

import (
	"slices"
	"strings"
	"testing"

	"recoup/api"
	"recoup/parse"
)

// All three faces, at tokens of any kind, held against all ways through the
// grammar.

// asFound asks all of them for the fault. The texts are far below the limits
// of trees.
func asFound(t *testing.T, text string) {
	t.Helper()
	if l, f := parse.Program(text); f != misfit("description", text) || f != (api.Fault{}) && len(l) != 0 {
		t.Errorf("Program(%s) = %d items, %v; want %v", brief(text), len(l), f, misfit("description", text))
	}
	if x, f := parse.Expr(text); f != misfit("sum", text) || f != (api.Fault{}) && !alike(x, api.Expr{}) {
		t.Errorf("Expr(%s) = %s, %v; want %v", brief(text), short(x), f, misfit("sum", text))
	}
	if s, f := parse.Shape(text); f != misfit("shape", text) || f != (api.Fault{}) && !alike(s, api.Shape{}) {
		t.Errorf("Shape(%s) = %s, %v; want %v", brief(text), short(s), f, misfit("shape", text))
	}
}

// each is one of each kind of token.
func each() []string {
	all := append(strings.Fields(allWords), "n", "7")
	return append(all, strings.Split("=;,()[]+-*/%", "")...)
}

// samples are texts that have, together, each place of the grammar.
func samples() []string {
	return []string{
		"const a = 1 ;", "const a = - ( b + 2 ) * 3 / c % 4 - 5 ;", "code x = y ;", "code x = reed ( 1 , a + 2 ) ;", "code x = cross ( - 1 , 2 ) ;",
		"code x = local ( 1 , 2 , 3 ) ;", "code x = pyramid ( 1 , ( 2 ) , a * 3 ) ;", "code x = product ( y , reed ( 1 , 2 ) ) ;",
		"code x = join ( join ( y , z ) , matrix [ 1 ] ) ;", "code x = matrix [ 1 , 0 ; a , - 1 ] ;", "use x ; use y ;", "domains 3 + 4 ;", "tolerate ( 2 ) ;",
		"place row ; place spread ;", "place spiral 2 * a ;", "place list [ 1 ] ;", "place list [ 1 , 2 + 3 , ( 4 ) ] ;",
		"- ( b + 2 ) * 3 / c % 4 - 5", "( ( a ) )", "reed ( 1 , a + 2 )", "cross ( - 1 , 2 )", "local ( 1 , 2 , 3 )", "pyramid ( 1 , ( 2 ) , a * 3 )",
		"product ( y , join ( y , z ) )", "matrix [ 1 , 0 ; a , - 1 ]", "y",
	}
}

// set is tokens as a text, in lines of some.
func set(tokens []string) string {
	var text strings.Builder
	for i, token := range tokens {
		text.WriteString([]string{" ", "\n", "  "}[i%3] + token)
	}
	return text.String()
}

// At each place of each sample: the text ends there; any token stands there
// instead; one more stands there; what stands there is missing.
func TestWrongTokensAtEachPlace(t *testing.T) {
	for _, sample := range samples() {
		tokens := strings.Fields(sample)
		for at := range len(tokens) + 1 {
			asFound(t, set(tokens[:at]))
			asFound(t, set(tokens[:at])+" #\n ")
			if at < len(tokens) {
				asFound(t, set(slices.Delete(slices.Clone(tokens), at, at+1)))
			}
			for _, token := range each() {
				asFound(t, set(slices.Insert(slices.Clone(tokens), at, token)))
				if at < len(tokens) {
					asFound(t, set(slices.Replace(slices.Clone(tokens), at, at+1, token)))
				}
			}
		}
	}
}

// All texts of up to three tokens.
func TestShortTexts(t *testing.T) {
	texts := []string{""}
	for range 3 {
		var longer []string
		for _, text := range texts {
			for _, token := range each() {
				longer = append(longer, text+" "+token)
				asFound(t, text+" "+token)
			}
		}
		texts = longer
	}
}

// Samples one behind the other, with some tokens changed.
func TestSpoiltTexts(t *testing.T) {
	for seed := range 4000 {
		from := seeded(seed)
		var tokens []string
		for range 1 + from.below(3) {
			tokens = append(tokens, strings.Fields(one(from, samples()))...)
		}
		for range from.below(4) {
			at := from.below(len(tokens))
			switch from.below(3) {
			case 0:
				tokens[at] = one(from, each())
			case 1:
				tokens = slices.Insert(tokens, at, one(from, each()))
			case 2:
				tokens = append(slices.Delete(tokens, at, at+1), "n")
			}
		}
		asFound(t, set(tokens))
	}
}

// Tokens of any kind, in any order.
func TestAnyTokens(t *testing.T) {
	for seed := range 4000 {
		from := seeded(seed)
		w := &writer{from: from}
		for range from.below(10) {
			w.put(one(from, each()))
		}
		asFound(t, w.text.String()+w.gap("("))
	}
}

// Any bytes: what is cut into tokens, and what is not.
func TestAnyBytes(t *testing.T) {
	for seed := range 4000 {
		from := seeded(seed)
		var text []byte
		for range from.below(12) {
			text = append(text, byte(from.word()))
		}
		asFound(t, string(text))
		pieces := append(each(), "\n", " ", " ", "#", "!", "01", "4x", "A", "\x80", "2147483648", "aaaaaaaaaaaaaaaaa")
		var some strings.Builder
		for range from.below(8) {
			some.WriteString(one(from, pieces) + one(from, []string{"", " "}))
		}
		asFound(t, some.String())
	}
}

// What token.Cut finds is told ahead of what the grammar finds, wherever both
// stand.
func TestFaultsOfTokensComeFirst(t *testing.T) {
	for _, c := range []struct {
		bad   string
		ahead int
	}{{"!", 0}, {"A", 0}, {"01", 0}, {"4x", 1}, {"2147483648", 0}, {strings.Repeat("q", 17), 0}, {"\xff", 0}, {"\r", 0}} {
		for _, wrong := range []string{"use use;", ")", "1 2", "", "x y z;", "place up;", "reed(4)"} {
			text := wrong + "\n  " + c.bad
			programFails(t, text, api.ErrLex, 2, 3+c.ahead)
			exprFails(t, text, api.ErrLex, 2, 3+c.ahead)
			shapeFails(t, text, api.ErrLex, 2, 3+c.ahead)
			text = "\n" + c.bad + " " + wrong
			programFails(t, text, api.ErrLex, 2, 1+c.ahead)
			exprFails(t, text, api.ErrLex, 2, 1+c.ahead)
			shapeFails(t, text, api.ErrLex, 2, 1+c.ahead)
		}
	}
}
