package token_test

import (
	"slices"
	"testing"

	"recoup/api"
	"recoup/token"
)

// Rule 5: what is answered is new memory, what is handed in stays.

func TestWordsAreNewMemory(t *testing.T) {
	first, second := token.Words(), token.Words()
	for i := range first {
		first[i] = "a"
	}
	first = append(first[:3], "b", "c")
	if !slices.Equal(second, wordList()) || !slices.Equal(token.Words(), wordList()) {
		t.Error("what is done to the words changes others")
	}
	mayIs(t, word("use"), true)
	mayIs(t, name("code"), false)
	cutIs(t, "use a", at(1, 1, word("use")), at(1, 5, name("a")))
	_ = append(second[:0:cap(second)], "z")
	if !slices.Equal(token.Words(), wordList()) {
		t.Error("what is done to the words changes others")
	}
}

func TestCutIsNewMemory(t *testing.T) {
	text := "a = 7 ; # x\nuse a"
	want, _ := slowCut(text)
	first, _ := token.Cut(text)
	second, _ := token.Cut(text)
	for i := range first[:cap(first)] {
		first[:cap(first)][i] = api.Token{Kind: 9, Text: "spoilt", N: -1}
	}
	if !slices.Equal(second, want) {
		t.Errorf("what is done to one answer changes another: %v", second)
	}
	cutIs(t, text, want...)
}

// What stands behind the end of the list that is handed in is not touched, and
// of no moment.
func TestJoinLeavesWhatIsHandedIn(t *testing.T) {
	for _, l := range [][]api.Token{nil, {name("a")}, {word("use"), name("x"), number(3), sign(";")}, {name("a"), name("use")}, badTokens()[:1]} {
		for _, behind := range []api.Token{{}, name("behind"), number(-1)} {
			room := slices.Concat(l, slices.Repeat([]api.Token{behind}, 8))
			held := slices.Clone(room)
			want, e := slowJoin(l)
			if got, told := token.Join(room[:len(l)]...); got != want || told != e {
				t.Errorf("Join(%v) = %q, %v; want %q, %v", l, got, told, want, e)
			}
			if !slices.Equal(room, held) {
				t.Errorf("Join(%v) changed what it was handed", l)
			}
		}
	}
}

func TestJoinIsNewMemory(t *testing.T) {
	l := []api.Token{word("use"), name("x"), sign(";")}
	first, _ := token.Join(l...)
	l[0], l[1] = name("other"), number(5)
	second, _ := token.Join(l...)
	if first != "use x ;" || second != "other 5 ;" {
		t.Errorf("Join = %q and %q", first, second)
	}
}

// Rule 3: what was wrong before changes no later answer.
func TestErrorsChangeNothing(t *testing.T) {
	for range 2 {
		cutFails(t, "a !", api.ErrLex, 1, 3)
		joinFails(t, api.ErrArg, name("a"), name("use"))
		cutIs(t, "a", at(1, 1, name("a")))
		joinIs(t, "a", name("a"))
	}
}
