package shape_test

import (
	"bytes"
	"fmt"
	"reflect"
	"slices"
	"testing"

	"recoup/api"
	"recoup/shape"
)

// Rule 5: what is answered is new memory, what is handed in stays. Rule 3: an
// error changes nothing. Rule 1: every call ends.

// span is where a list lies, the room behind its end too.
type span struct{ from, end uintptr }

// spans are where the lists of some codes lie.
func spans(codes ...api.Code) []span {
	var made []span
	for _, c := range codes {
		for _, list := range []reflect.Value{reflect.ValueOf(c.G.Data), reflect.ValueOf(c.Groups)} {
			if list.Cap() > 0 {
				made = append(made, span{list.Pointer(), list.Pointer() + uintptr(list.Cap())*list.Type().Elem().Size()})
			}
		}
	}
	return made
}

// share tells whether some list of the one codes lies where one of the others
// does.
func share(a, b []span) bool {
	for _, x := range a {
		for _, y := range b {
			if x.from < y.end && y.from < x.end {
				return true
			}
		}
	}
	return false
}

// copied are all lists of a code, the room behind their ends too.
func copied(c api.Code) api.Code {
	c.G.Data = bytes.Clone(c.G.Data[:cap(c.G.Data)])
	c.Groups = slices.Clone(c.Groups[:cap(c.Groups)])
	return c
}

// spoil writes over all lists of a code, the room behind their ends too.
func spoil(c api.Code) {
	data, groups := c.G.Data[:cap(c.G.Data)], c.Groups[:cap(c.Groups)]
	for i := range data {
		data[i] ^= 0xff
	}
	for i := range groups {
		groups[i] = ^groups[i]
	}
}

// calls are those that make codes, as calls of two codes: those of numbers take
// the codes' columns.
func calls() map[string]func(a, b api.Code) (api.Code, api.Errno) {
	return map[string]func(a, b api.Code) (api.Code, api.Errno){
		"Reed":     func(a, b api.Code) (api.Code, api.Errno) { return shape.Reed(a.G.Cols, b.G.Cols) },
		"Cross":    func(a, b api.Code) (api.Code, api.Errno) { return shape.Cross(a.G.Cols, b.G.Cols) },
		"Local":    func(a, b api.Code) (api.Code, api.Errno) { return shape.Local(a.G.Cols, 1, b.G.Cols) },
		"Pyramid":  func(a, b api.Code) (api.Code, api.Errno) { return shape.Pyramid(a.G.Cols, a.G.Cols, b.G.Cols) },
		"Product":  shape.Product,
		"Join":     shape.Join,
		"Explicit": func(a, _ api.Code) (api.Code, api.Errno) { return shape.Explicit(a.G) },
	}
}

// handed are codes that may be, and some that may not.
func handed() []api.Code {
	made := append(someCodes(), code(identity(64)), code(noughts(64, 1), ^api.Set(0), 0), manyGroups(2, 300))
	return append(made, badCodes()[len(badCodes())-13:]...)
}

// pairs goes through pairs of such codes, each time with lists of their own.
func pairs(do func(a, b api.Code)) {
	all := handed()
	for i := range all {
		for j := range all {
			if i == j || (i+j)%5 == 0 {
				do(code(all[i].G, all[i].Groups...), code(all[j].G, all[j].Groups...))
			}
		}
	}
}

func TestAnswersAreNewMemory(t *testing.T) {
	for name, call := range calls() {
		pairs(func(a, b api.Code) {
			before := []api.Code{copied(a), copied(b)}
			first, e := call(a, b)
			second, _ := call(a, b)
			want := copied(second)
			if share(spans(first), spans(a, b)) || share(spans(first), spans(second)) {
				t.Errorf("%s: an answer shares memory", name)
			}
			spoil(first)
			if !alike(copied(second), want) {
				t.Errorf("%s: two answers share memory", name)
			}
			if !alike(copied(a), before[0]) || !alike(copied(b), before[1]) {
				t.Errorf("%s changed what it was handed, or shares it: %v", name, e)
			}
			if third, again := call(a, b); again != e || !alike(third, second) {
				t.Errorf("%s hangs on what becomes of its answers", name)
			}
			spoil(a)
			spoil(b)
			if !alike(copied(second), want) {
				t.Errorf("%s: what is done to what was handed in changes an answer", name)
			}
		})
	}
}

// One code may be handed in twice, or two that share their lists.
func TestOneCodeTwice(t *testing.T) {
	for name, c := range bothLaid() {
		for _, a := range someCodes() {
			if c.blocks(a, a) > 64 {
				continue
			}
			before := copied(a)
			got, e := c.call(a, a)
			is(t, name+" of a code with itself", got, e, c.model(a, a))
			if !alike(copied(a), before) || share(spans(got), spans(a)) {
				t.Errorf("%s of a code with itself changes it, or shares its memory", name)
			}
			cut := a
			cut.Groups = a.Groups[:len(a.Groups)/2]
			got, e = c.call(cut, a)
			is(t, name+" of a code with one that shares its groups", got, e, c.model(cut, a))
		}
	}
}

func TestMayAndSameChangeNothing(t *testing.T) {
	for _, c := range append(handed(), badCodes()...) {
		other := code(c.G, c.Groups...)
		before, others := copied(c), copied(other)
		shape.May(c)
		shape.Same(c, other)
		if !alike(copied(c), before) || !alike(copied(other), others) {
			t.Errorf("what was handed in was changed: %v", c)
		}
	}
	// Groups stay in their order.
	c := code(noughts(5, 1), set(3), set(1), set(4), set(1), 0, set(2))
	before := copied(c)
	if !shape.May(c) || !alike(copied(c), before) {
		t.Errorf("May turned groups about: %v", c)
	}
}

// What is answered does not hang on the room behind the lists.
func TestRoomBehindIsOfNoMoment(t *testing.T) {
	for name, call := range calls() {
		pairs(func(a, b api.Code) {
			with, e := call(a, b)
			for _, c := range []*api.Code{&a, &b} {
				c.G.Data, c.Groups = slices.Clip(c.G.Data), slices.Clip(c.Groups)
			}
			if without, again := call(a, b); again != e || !alike(with, without) {
				t.Errorf("%s = %v, %v, without room behind %v, %v", name, with, e, without, again)
			}
		})
	}
}

// Rule 4: nil and empty lists of groups are the same.
func TestNoGroupsEitherWay(t *testing.T) {
	a, b := code(slowReed(2, 1)), code(slowReed(2, 1))
	a.Groups, b.Groups = nil, []api.Set{}
	for name, call := range calls() {
		first, e := call(a, a)
		for _, other := range [][2]api.Code{{a, b}, {b, a}, {b, b}} {
			if got, again := call(other[0], other[1]); again != e || !alike(got, first) {
				t.Errorf("%s = %v, %v, want %v, %v", name, got, again, first, e)
			}
		}
	}
	may(t, a, true)
	may(t, b, true)
}

func TestErrorsChangeNothing(t *testing.T) {
	for range 3 {
		for _, bad := range badCodes()[:20] {
			shape.Product(bad, bad)
			shape.Join(bad, bad)
			shape.Explicit(bad.G)
		}
		shape.Reed(0, 0)
		shape.Cross(64, 64)
		shape.Local(4, 3, 0)
		shape.Pyramid(64, 64, 64)
		got, e := shape.Local(2, 1, 1)
		is(t, "Local(2, 1, 1)", got, e, slowLocal(2, 1, 1))
		got, e = shape.Pyramid(2, 1, 1)
		is(t, "Pyramid(2, 1, 1)", got, e, slowPyramid(2, 1, 1))
		got, e = shape.Reed(3, 2)
		is(t, "Reed(3, 2)", got, e, code(slowReed(3, 2)))
		got, e = shape.Join(got, slowLocal(1, 1, 0))
		is(t, "Join", got, e, slowJoin(code(slowReed(3, 2)), slowLocal(1, 1, 0)))
	}
}

// Every call ends, whatever it is given.
func TestAnythingAtAll(t *testing.T) {
	matrices := append(append(wrong(), flat()...), identity(64), filled(64, 3, 1), of(1, 0, 0))
	for _, g := range matrices {
		for _, groups := range [][]api.Set{nil, {0}, {1}, {1 << 63}, {^api.Set(0), 7, 7, 0}, make([]api.Set, 16385)} {
			c := api.Code{G: g, Groups: groups}
			shape.May(c)
			shape.Explicit(g)
			for _, other := range []api.Code{{}, code(of(1, 1)), code(identity(64)), manyGroups(64, 3)} {
				shape.Same(c, other)
				for name, call := range bothLaid() {
					for _, pair := range [][2]api.Code{{c, other}, {other, c}, {c, c}} {
						if got, e := call.call(pair[0], pair[1]); e != api.OK && !alike(got, api.Code{}) {
							t.Error(fmt.Sprint(name, " answers a code beside ", e))
						}
					}
				}
			}
		}
	}
}
