package token_test

import (
	"slices"
	"strings"
	"testing"

	"recoup/api"
	"recoup/token"
)

// anyTokens are some that may be, without places.
func anyTokens(from *source) []api.Token {
	all := tokens()
	var made []api.Token
	for range from.below(20) {
		made = append(made, one(from, all))
	}
	return made
}

// P9.4
func TestCutOfJoinTellsTheTokens(t *testing.T) {
	for seed := range 2000 {
		l := anyTokens(seeded(seed))
		text, e := token.Join(l...)
		if e != api.OK {
			t.Fatalf("Join(%v) = %v", l, e)
		}
		col := 1
		for i, x := range l {
			l[i] = at(1, col, x)
			alone, _ := slowJoin([]api.Token{x})
			col += len(alone) + 1
		}
		cutIs(t, text, l...)
	}
}

func TestCutOfTheLongestJoin(t *testing.T) {
	l := slices.Repeat([]api.Token{sign("["), number(7), name("x"), sign("]")}, api.MaxText/8)
	text, e := token.Join(l...)
	if e != api.OK || len(text) != api.MaxText-1 {
		t.Fatalf("Join = %d bytes, %v", len(text), e)
	}
	got, f := token.Cut(text)
	if !slices.Equal(bare(got), l) || f != (api.Fault{}) {
		t.Errorf("Cut of Join = %d tokens, %v", len(got), f)
	}
}

func TestJoinOfCutIsCutIntoTheSame(t *testing.T) {
	pieces := append(wordList(), "a", "x1", "0", "7", "2147483647", " ", "\n", "\t", "#x\n", "#\n", "=", ";", "(", ")", "/", "%")
	cuts := 0
	for seed := range 4000 {
		text := seeded(seed).some(pieces, 14)
		l, f := token.Cut(text)
		if f.Code != api.OK {
			continue
		}
		cuts++
		joined, e := token.Join(l...)
		if e != api.OK {
			t.Errorf("Join of Cut(%q) = %v", text, e)
		}
		again, f := token.Cut(joined)
		if !slices.Equal(bare(again), bare(l)) || f != (api.Fault{}) {
			t.Errorf("Cut(%q) = %v, %v; of %q it was %v", joined, again, f, text, l)
		}
		for _, x := range again {
			if x.Line != 1 {
				t.Errorf("Cut(%q) has a line %d", joined, x.Line)
			}
		}
	}
	if cuts < 1000 {
		t.Errorf("only %d texts were cut", cuts)
	}
}

// What Cut tells may be.
func TestCutTellsWhatMayBe(t *testing.T) {
	for seed := range 2000 {
		text, _ := token.Join(anyTokens(seeded(seed))...)
		l, _ := token.Cut(strings.ReplaceAll(text, " ", "\n"))
		for _, x := range l {
			if !token.May(x) {
				t.Errorf("Cut(%q) tells %v", text, x)
			}
		}
	}
}

func TestBlanksAndRemarksChangeNothing(t *testing.T) {
	gaps := []string{" ", "  ", "\t", "\n", " \n\t", "#\n", " # use ! 01\n", "\n#a\n#b\n\n", "#;\n\t"}
	for seed := range 2000 {
		from := seeded(seed)
		l := anyTokens(from)
		text := from.some(gaps, 2)
		for i, x := range l {
			alone, _ := slowJoin([]api.Token{x})
			line, col := slowWhere(text, len(text))
			l[i] = at(line, col, x)
			text += alone + one(from, gaps) + from.some(gaps, 2)
		}
		cutIs(t, text, l...)
		cutIs(t, text+"# the end", l...)
	}
}

// Blanks beside signs, and at both ends, may be there or not.
func TestBlanksBesideSignsChangeNothing(t *testing.T) {
	for _, text := range []string{"a = reed(4, 2);", "const a=1+2;", "x=matrix[1,0;0,1];", "use x;tolerate 1;", "- - 1"} {
		want, _ := token.Cut(text)
		for _, s := range signList() {
			for _, gap := range []string{" ", "\n", "\t\t", "#\n"} {
				for _, wide := range []string{s + gap, gap + s, gap + s + gap} {
					more := gap + strings.ReplaceAll(text, s, wide) + gap
					l, f := token.Cut(more)
					if !slices.Equal(bare(l), bare(want)) || f != (api.Fault{}) {
						t.Errorf("Cut(%q) = %v, %v", more, l, f)
					}
				}
			}
		}
	}
}
