package names_test

import (
	"fmt"
	"slices"
	"strings"
	"testing"

	"recoup/api"
)

// P13.3

func usedOf(t *testing.T, text string, want ...string) {
	t.Helper()
	usedAre(t, read(t, text), want...)
}

func TestUsedOfNone(t *testing.T) {
	usedAre(t, nil)
	usedAre(t, []api.Item{})
	usedOf(t, "const a = 1; code x = reed(1, 2); domains 3; tolerate 4; place row; place spread; place spiral 5; place list [6, 7];")
}

// What is only made is left out; what is used is told, made or not, as
// whatever it was made.
func TestUsedOfEachKind(t *testing.T) {
	usedOf(t, "const a = b;", "b")
	usedOf(t, "const a = a;", "a")
	usedOf(t, "const a = - (c + b) * c;", "b", "c")
	usedOf(t, "code x = y;", "y")
	usedOf(t, "code x = x;", "x")
	usedOf(t, "use x;", "x")
	usedOf(t, "domains a;", "a")
	usedOf(t, "tolerate 1 + a;", "a")
	usedOf(t, "place spiral a % b;", "a", "b")
	usedOf(t, "place list [c, 1, b, - a];", "a", "b", "c")
	for _, kind := range []string{"reed", "cross"} {
		usedOf(t, "code x = "+kind+"(b, a);", "a", "b")
	}
	for _, kind := range []string{"local", "pyramid"} {
		usedOf(t, "code x = "+kind+"(c, 1 + b, a);", "a", "b", "c")
	}
	for _, kind := range []string{"product", "join"} {
		usedOf(t, "code x = "+kind+"(z, y);", "y", "z")
		usedOf(t, "code x = "+kind+"("+kind+"(z, reed(a, 1)), matrix [1; b, c]);", "a", "b", "c", "z")
	}
	usedOf(t, "code x = matrix [d, c; b; a, 1];", "a", "b", "c", "d")
	usedOf(t, "const a = 1; use a; code a = reed(a, a); const a = a / 0;", "a")
	usedOf(t, "const a = z; code x = join(y, matrix [b, a; b, c]); use q; place spiral d;", "a", "b", "c", "d", "q", "y", "z")
}

func TestUsedLeavesOutWhatIsOnlyMade(t *testing.T) {
	usedOf(t, "const a = 1; const b = a; const c = a; code x = reed(b, 1); code y = reed(1, 1); use x;", "a", "b", "x")
	usedOf(t, "const c = 1; const b = 1; code x = reed(1, 1);")
	usedOf(t, "use x; use x; use x;", "x")
	// Each name of each pattern, and no other one.
	for _, pattern := range patterns {
		var want []string
		text, _ := filled(pattern, func(slot int, _ api.SymbolKind) string {
			want = append(want, fmt.Sprintf("n%02d", slot))
			return want[slot]
		})
		usedOf(t, text, want...)
		text, _ = filled(pattern, func(slot int, _ api.SymbolKind) string { return want[len(want)-1-slot] })
		usedOf(t, ahead+text+text, want...)
	}
}

// They rise byte by byte: digits ahead of letters, a beginning ahead of what
// it begins, whatever the length.
func TestUsedRises(t *testing.T) {
	want := []string{"a", "a0", "a00", "a1", "a10", "a2", "a9", "aa", "aaaaaaaaaaaaaaa", "aaaaaaaaaaaaaaaa", "ab", "az", "b", "b0", "ba", "z", "z0", "zz", "zzzzzzzzzzzzzzzz"}
	for seed := range 200 {
		s := seeded(seed)
		l := slices.Concat(want, want)
		for i := range l {
			j := s.below(i + 1)
			l[i], l[j] = l[j], l[i]
		}
		var text strings.Builder
		for _, part := range l {
			fmt.Fprintf(&text, one(s, []string{"use %s;", "domains %s;", "code c = %s;", "const c = 1 - %s;", "place list [1, %s];"}), part)
		}
		usedOf(t, text.String(), want...)
	}
}

func TestUsedAtTheLimits(t *testing.T) {
	usedAre(t, []api.Item{tolerate(nested(api.MaxNest, name("a")))}, "a")
	usedAre(t, []api.Item{code("y", nestedShape(api.MaxNest, shaped("x")))}, "x")
	usedAre(t, []api.Item{tolerate(full(13, name("a")))}, "a")
	l, want := grid(64, 64, "a"), []string{}
	for i := range 4096 {
		want = append(want, fmt.Sprintf("n%04d", i))
		l.Rows[63-i/64][63-i%64].Name = want[i]
	}
	usedAre(t, []api.Item{code("x", l)}, want...)
	var most []api.Item
	for range api.MaxItems {
		most = append(most, use("x"))
	}
	usedAre(t, most, "x")
	usedFails(t, "65 items", append(most, use("x"))...)
	usedFails(t, "too many parts", code("x", l), code("y", l))
}

func TestUsedOfDescriptionsThatMayNotBe(t *testing.T) {
	for what, wrong := range wrongItems() {
		usedFails(t, what, wrong)
		usedFails(t, what+" behind a right one", use("x"), wrong)
		usedFails(t, what+" ahead of a right one", wrong, use("x"))
	}
	usedFails(t, "very many items", make([]api.Item, 1<<16)...)
}

func TestUsedOfAnyTexts(t *testing.T) {
	many := 0
	for seed := range 10000 {
		text := anyText(seed, 1+seed%12)
		want := slowUsed(t, text)
		usedOf(t, text, want...)
		if len(want) > 3 {
			many++
		}
	}
	if many < 1000 {
		t.Errorf("%d texts alone use more than three names", many)
	}
}
