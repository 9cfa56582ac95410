package typing_test

import (
	"fmt"
	"math"
	"slices"
	"testing"

	"recoup/api"
	"recoup/names"
	"recoup/number"
	"recoup/tree"
	"recoup/typing"
)

// P14.3, and all promises together.

// checked does something with descriptions that have a core, and with it.
func checked(t *testing.T, do func(text string, c api.Core)) {
	t.Helper()
	for seed := range 600 {
		text, _ := written(seed)
		do(text, coreOf(t, text))
	}
}

func sameCore(t *testing.T, what string, want api.Core, l ...api.Item) {
	t.Helper()
	if got, f := typing.Check(l...); shown(got) != shown(want) || !typing.Same(got, want) || f != (api.Fault{}) {
		t.Errorf("Check of %s = %s, %v; want %s", short(what), short(shown(got)), f, short(shown(want)))
	}
}

func TestWhatIsAnsweredMayBe(t *testing.T) {
	checked(t, func(text string, c api.Core) { mayBe(t, text, true, c) })
	count := 0
	for seed := range 2000 {
		text, _ := written(seed)
		l, s := read(t, text), seeded(seed+4000000)
		for range 3 {
			l = s.spoilt(l)
			if len(l) == 0 {
				break
			}
			c, f := typing.Check(l...)
			if f == (api.Fault{}) {
				count++
			}
			mayBe(t, "what is answered", f == (api.Fault{}), c)
		}
	}
	if count < 500 {
		t.Errorf("%d descriptions alone have a core", count)
	}
}

// Places change nothing but those of faults: without them a fault stands at
// the noughts, unless it has a place of its own.
func TestPlacesChangeNoCore(t *testing.T) {
	for seed := range 2000 {
		text, _ := written(seed)
		l, s := read(t, text), seeded(seed+5000000)
		for range seed % 4 {
			if len(l) > 1 {
				l = s.spoilt(l)
			}
		}
		bare, e := tree.Strip(l...)
		if e != api.OK {
			continue // a tree that is too deep
		}
		want, wf := typing.Check(l...)
		got, f := typing.Check(bare...)
		at := fault(wf.Code, 0, 0)
		if f == fault(api.ErrType, 1, 1) {
			at = f
		}
		if shown(got) != shown(want) || f != at || f.Line == 1 && len(items(l, api.IUse)) > 0 {
			t.Errorf("Check without places = %s, %v; want %s, %v", short(shown(got)), f, short(shown(want)), wf)
		}
	}
}

// inPlace is a description with its constants' numbers in the place of their
// names; false, if it is too deep then.
func inPlace(l []api.Item) ([]api.Item, bool) {
	table, _ := names.Table(l...)
	put := func(x api.Expr) api.Expr {
		for _, c := range names.Env(table...) {
			n := api.Expr{Kind: api.ENumber, N: max(c.N, -c.N)}
			if c.N < 0 {
				n = api.Expr{Kind: api.ENegate, L: []api.Expr{n}}
			}
			x, _ = number.Put(x, c.Name, n)
		}
		return x
	}
	all, _ := tree.Strip(l...)
	for i := range all {
		if all[i].Value.Kind != api.NoExpr {
			all[i].Value = put(all[i].Value)
		}
		for j := range all[i].List {
			all[i].List[j] = put(all[i].List[j])
		}
	}
	for _, s := range shapes(all) {
		for j := range s.Args {
			s.Args[j] = put(s.Args[j])
		}
		for _, row := range s.Rows {
			for j := range row {
				row[j] = put(row[j])
			}
		}
	}
	return all, tree.May(all...)
}

func TestNumbersInThePlaceOfConstants(t *testing.T) {
	count := 0
	checked(t, func(text string, c api.Core) {
		all, ok := inPlace(read(t, text))
		if !ok {
			return
		}
		count++
		sameCore(t, "the numbers in the place of names", c, all...)
		without := slices.DeleteFunc(all, func(t api.Item) bool { return t.Kind == api.IConst })
		sameCore(t, "the numbers, and no constants at all", c, without...)
		if used, _ := names.Used(without...); len(used) > len(items(without, api.ICode)) {
			t.Errorf("there are still constants in use: %v", used)
		}
	})
	if count < 400 {
		t.Errorf("%d descriptions alone could be changed", count)
	}
}

// moved is a core with more codes at a place.
func moved(c api.Core, place int, more ...api.CoreCode) api.Core {
	shift := func(n int) int {
		if n >= place {
			return n + len(more)
		}
		return n
	}
	c.Codes = slices.Clone(c.Codes)
	for i, code := range c.Codes {
		if code.Kind == api.SProduct || code.Kind == api.SJoin {
			c.Codes[i].A, c.Codes[i].B = shift(code.A), shift(code.B)
		}
	}
	for i, code := range more {
		if code.Kind == api.SProduct || code.Kind == api.SJoin {
			more[i].A, more[i].B = code.A+place, code.B+place
		}
	}
	c.Codes, c.Use = slices.Insert(c.Codes, place, more...), shift(c.Use)
	return c
}

// What is made and not used changes nothing of the rest.
func TestWhatIsMadeAndNotUsed(t *testing.T) {
	checked(t, func(text string, c api.Core) {
		l := read(t, text)
		for i := range len(l) + 1 {
			sameCore(t, "one more constant", c, slices.Insert(slices.Clone(l), i, read(t, "const new = 3 * - 7;")...)...)
			place := 0
			for _, s := range shapes(l[:i]) {
				if s.Kind != api.SName {
					place++
				}
			}
			sameCore(t, "one more code", moved(c, place, reed(60, 4)), slices.Insert(slices.Clone(l), i, read(t, "code new = reed(60, 4);")...)...)
			sameCore(t, "more codes", moved(c, place, rows([]byte{3}), reed(1, 2), pair(api.SJoin, 0, 1, 4, 2)),
				slices.Insert(slices.Clone(l), i, read(t, "code new = join(matrix [3], reed(1, 2)); const newer = 1;")...)...)
		}
		for _, code := range items(l, api.ICode) {
			sameCore(t, "one more name of a code", c, append(slices.Clone(l), api.Item{Kind: api.ICode, Name: "new", Shape: api.Shape{Kind: api.SName, Name: code.Name}})...)
		}
	})
}

// The first fault stays, whatever comes behind its item.
func TestBeginningsOfWhatIsWrong(t *testing.T) {
	for _, w := range wrongItems() {
		ahead := "code x = reed(2, 1); use x;"
		text, line, col := marked(t, named(1, ahead, w.text, "place row; domains 1; domains 2; tolerate 9; code y = reed(0, 0);"))
		l := read(t, text)
		for end := 3; end <= len(l); end++ {
			checkFails(t, text, fault(w.e, line, col), l[:end]...)
		}
		sameCore(t, "the beginning", used(reed(2, 1)), l[:2]...)
	}
}

// No call panics, whatever it is given.
func TestAnythingAtAll(t *testing.T) {
	loop, parts := make([]api.Expr, 2), make([]api.Shape, 2)
	for _, n := range []int{0, 1, -1, math.MaxInt, math.MinInt} {
		for kind := range 12 {
			for _, l := range [][]api.Expr{nil, {}, loop, loop[:1], make([]api.Expr, 3), {{Kind: api.ENumber}, {Kind: api.ENumber, N: 1}}} {
				for _, text := range []string{"", "a", "use", "\xff\x00"} {
					x := api.Expr{Kind: api.ExprKind(kind), N: n, Name: text, L: l, Line: n, Col: n}
					s := api.Shape{Kind: api.ShapeKind(kind), Name: text, Args: l, Parts: parts[:max(0, min(2, n))], Rows: [][]api.Expr{l, nil}[:max(0, min(2, n))], Line: n}
					loop[0], loop[1], parts[0], parts[1] = x, x, s, s
					for _, item := range []api.Item{
						{Kind: api.ItemKind(kind), Name: text, Value: x, Shape: s, Place: api.PlaceKind(kind), List: l, Col: n},
						{Kind: api.ICode, Name: "x", Shape: s}, {Kind: api.IConst, Name: "x", Value: x}, {Kind: api.IDomains, Value: x}, {Kind: api.IPlace, Place: api.PList, List: l}, {Kind: api.IUse, Name: text},
					} {
						if c, f := typing.Check(item, item); f == (api.Fault{}) || (f == fault(api.ErrArg, 0, 0)) == tree.May(item) || shown(c) != shown(api.Core{}) {
							t.Errorf("Check of the kind %d with %d and %q: %v", kind, n, text, f)
						}
					}
				}
			}
		}
	}
}

// Cores of any numbers.
func TestAnyCoresAtAll(t *testing.T) {
	edges := []int{0, 1, 2, -1, 63, 64, 65, math.MaxInt, math.MinInt}
	for seed := range 20000 {
		s := seeded(seed)
		var c api.Core
		c.Codes = make([]api.CoreCode, s.below(4))
		c.List = make([]int, s.below(3))
		for _, n := range numbersOf(&c) {
			*n = one(s, edges[:3+s.below(7)])
		}
		for i := range c.Codes {
			c.Codes[i].Kind = api.ShapeKind(s.below(10))
			c.Codes[i].G.Data = make([]byte, s.below(3))
		}
		c.Place = api.PlaceKind(s.below(6))
		mayBe(t, fmt.Sprint("the core of seed ", seed), slowMay(c), c)
		sameIs(t, "any core and nothing", shown(c) == shown(api.Core{}), c, api.Core{})
	}
}
