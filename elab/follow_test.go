package elab_test

import (
	"fmt"
	"math"
	"slices"
	"strings"
	"testing"

	"recoup/api"
	"recoup/elab"
	"recoup/parse"
	"recoup/typing"
)

// P17.5: what follows.

// spoilt is a text with some of its bytes left out, doubled or exchanged for
// others; most such texts have a fault, of any stage.
func (s *source) spoilt(text string) string {
	if len(text) == 0 {
		return text
	}
	at := s.below(len(text))
	end := min(len(text), at+1+s.below(4))
	if s.below(3) == 0 { // a whole item
		at = strings.LastIndexByte(text[:at], ';') + 1
		end = len(text)
		if behind := strings.IndexByte(text[at:], ';'); behind >= 0 {
			end = at + behind + 1
		}
	}
	switch s.below(4) {
	case 0:
		return text[:at] + text[end:]
	case 1:
		return text[:end] + text[at:]
	case 2:
		words := []string{"0", "1", "2", "9", "64", ";", ",", "x0", "x1", " c", "-", "use", "#", "!", "tolerate 1;", "domains 3;", "matrix [0]"}
		return text[:at] + one(s, words) + text[at:]
	}
	digits := func(r rune) bool { return r >= '0' && r <= '9' }
	if digit := strings.IndexFunc(text[at:], digits); digit >= 0 {
		at += digit
	}
	return text[:at] + one(s, []string{"0", "1", "3", "7"}) + text[at+1:]
}

// anyTexts goes through texts that have a layout, and such as have faults.
func anyTexts(do func(text string)) {
	for seed := range 1500 {
		text, _ := written(seed)
		do(text)
		s := seeded(seed + 3000000)
		for range 4 {
			text = s.spoilt(text)
			do(text)
		}
	}
}

// stages is what the layers below tell of a text: a layout made in a slow way
// of the core that they find, or one fault, of the first stage that fails.
func stages(text string) (api.Layout, api.Fault) {
	items, f := parse.Program(text)
	if f != (api.Fault{}) {
		return api.Layout{}, f
	}
	core, f := typing.Check(items...)
	if f != (api.Fault{}) {
		return api.Layout{}, f
	}
	l, e := slowBuild(core)
	if e != api.OK {
		for _, item := range items {
			if item.Kind == api.IUse {
				return api.Layout{}, api.Fault{Code: e, Line: item.Line, Col: item.Col}
			}
		}
	}
	return l, api.Fault{}
}

func TestOneFaultOrALayout(t *testing.T) {
	met := map[api.Errno]int{}
	anyTexts(func(text string) {
		want, f := stages(text)
		met[f.Code]++
		if f != (api.Fault{}) {
			fromFails(t, text, f)
			return
		}
		fromIs(t, text, want)
	})
	for _, e := range []api.Errno{api.OK, api.ErrLex, api.ErrSyntax, api.ErrName, api.ErrType, api.ErrLimit, api.ErrTwice, api.ErrSingular} {
		if met[e] < 5 {
			t.Errorf("%v is met %d times alone", e, met[e])
		}
	}
}

func TestWhatIsAnsweredMayBe(t *testing.T) {
	met := map[bool]int{}
	anyTexts(func(text string) {
		l, f := elab.From(text)
		met[f == (api.Fault{})]++
		mayBe(t, short(text), f == (api.Fault{}), l)
		if f == (api.Fault{}) && !slowMay(l) {
			t.Errorf("From(%s) may not be", short(text))
		}
	})
	if met[true] < 1000 || met[false] < 1000 {
		t.Errorf("%d texts have a layout, %d have none", met[true], met[false])
	}
}

// A tidied text has the same layout, or the same error, wherever it stands
// then.
func TestTidiedTexts(t *testing.T) {
	met := map[api.Errno]int{}
	anyTexts(func(text string) {
		want, wf := elab.From(text)
		tidy, f := parse.Tidy(text)
		if f != (api.Fault{}) {
			if wf != f {
				t.Errorf("From(%s): %v, and Tidy: %v", short(text), wf, f)
			}
			return
		}
		met[wf.Code]++
		got, f := elab.From(tidy)
		if !elab.Same(got, want) || shown(got) != shown(want) || f.Code != wf.Code {
			t.Errorf("From(%s) = %s, %v; tidied %s, %v", short(text), short(shown(want)), wf, short(shown(got)), f)
		}
		if f.Code == api.ErrSingular {
			use := slices.IndexFunc(strings.Split(tidy, "\n"), func(line string) bool { return strings.HasPrefix(line, "use ") })
			fromFails(t, tidy, api.Fault{Code: api.ErrSingular, Line: use + 1, Col: 1})
		}
	})
	for _, e := range []api.Errno{api.OK, api.ErrName, api.ErrType, api.ErrSingular} {
		if met[e] < 10 {
			t.Errorf("%d tidied texts alone have %v", met[e], e)
		}
	}
}

// The text of a core has the layout that Build makes of the core.
func TestBuildAndFromAgree(t *testing.T) {
	for seed := range 1500 {
		text, c := written(seed)
		built, e := elab.Build(c)
		got, f := elab.From(text)
		if !elab.Same(built, got) || f.Code != e {
			t.Errorf("Build and From of %s: %s, %v and %s, %v", short(text), short(shown(built)), e, short(shown(got)), f)
		}
		codes, _ := elab.Codes(c)
		if e == api.OK && shown(codes[c.Use]) != shown(built.Code) {
			t.Errorf("Build of %s has another code than Codes", short(text))
		}
	}
}

// Rule 1: no call panics, whatever it is given. Which cores may be is layer
// 14's to tell.
func TestAnyCoresAtAll(t *testing.T) {
	edges := []int{0, 1, 2, -1, 63, 64, 65, math.MaxInt, math.MinInt}
	met := map[api.Errno]int{}
	for seed := range 20000 {
		s := seeded(seed)
		few := edges[:3+s.below(7)]
		c := api.Core{Use: one(s, few), Domains: one(s, few), Place: api.PlaceKind(s.below(6)), Step: one(s, few) * s.below(2), Tolerate: one(s, few)}
		if seed%2 == 0 {
			c.Use, c.Domains, c.Place, c.Step, c.Tolerate = 0, 1+s.below(64), api.PRow, 0, 0
		}
		for range s.below(4) {
			code := api.CoreCode{Kind: api.ShapeKind(s.below(10)), A: one(s, few), B: one(s, few), C: one(s, few) * s.below(2), N: one(s, few), K: one(s, few)}
			code.G = api.Matrix{Rows: one(s, few) * s.below(2), Cols: one(s, few) * s.below(2), Data: make([]byte, s.below(3))}
			if seed%2 == 0 && s.below(4) > 0 {
				code = two(one(s, []api.ShapeKind{api.SReed, api.SCross}), code.A, code.B)
			}
			c.Codes = append(c.Codes, code)
		}
		codes, e := elab.Codes(c)
		built, be := elab.Build(c)
		met[be]++
		if may := typing.May(c); may != (e == api.OK) || may == (be == api.ErrArg) || e == api.OK && shown(codes) != shown(slowCodes(c)) {
			t.Errorf("Codes and Build of %s: %v and %v", short(shown(c)), e, be)
		}
		if e != api.OK && len(codes) > 0 || be != api.OK && shown(built) != shown(api.Layout{}) {
			t.Errorf("%s: something beside the errors %v and %v", short(shown(c)), e, be)
		}
	}
	if met[api.OK] < 500 || met[api.ErrArg] < 500 {
		t.Errorf("%v are met", met)
	}
}

func TestAnyTextsAtAll(t *testing.T) {
	for _, text := range []string{"\x00", "\xff\xfe", ";", "#", "\n\n\n", "use use;", strings.Repeat("(", 60000), strings.Repeat("code x = join(", 4000), strings.Repeat("a", 65536), strings.Repeat("a", 65537)} {
		if l, f := elab.From(text); f == (api.Fault{}) || shown(l) != shown(api.Layout{}) {
			t.Errorf("From(%q) = %v, %v", short(text), l, f)
		}
	}
	for seed := range 3000 {
		s := seeded(seed)
		raw := make([]byte, s.below(200))
		for i := range raw {
			raw[i] = byte(s.below(256))
		}
		if l, f := elab.From(string(raw)); f == (api.Fault{}) || shown(l) != shown(api.Layout{}) {
			t.Errorf("From(%q) = %v, %v", raw, l, f)
		}
	}
}

// Layouts of any numbers.
func TestAnyLayoutsAtAll(t *testing.T) {
	edges := []int{0, 1, 2, 3, -1, 64, 65, math.MaxInt, math.MinInt, 1 << 32}
	for seed := range 20000 {
		s := seeded(seed)
		few := edges[:4+s.below(7)]
		g := api.Matrix{Rows: one(s, few), Cols: one(s, few), Data: make([]byte, s.below(5))}
		for i := range g.Data {
			g.Data[i] = byte(s.below(3))
		}
		l := api.Layout{Code: api.Code{G: g, Groups: make([]api.Set, s.below(3))}, Homes: make([]int, s.below(5)), Domains: one(s, few), Tolerate: one(s, few)}
		for i := range l.Code.Groups {
			l.Code.Groups[i] = api.Set(s.below(8))
		}
		for i := range l.Homes {
			l.Homes[i] = one(s, few)
		}
		mayBe(t, fmt.Sprint("the layout of seed ", seed), slowMay(l), l)
		sameIs(t, "any layout and nothing", shown(l) == shown(api.Layout{}), l, api.Layout{})
	}
}
