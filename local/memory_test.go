package local_test

import (
	"bytes"
	"fmt"
	"math"
	"slices"
	"testing"

	"recoup/api"
	"recoup/local"
	"recoup/shape"
)

// behind fills the room behind the end of a list that is handed in.
const behind = 0xa5

// roomy is a list of the same elements with room behind its end.
func roomy[T any](list []T, fill T) []T {
	room := slices.Repeat([]T{fill}, len(list)+70)
	copy(room, list)
	return room[:len(list)]
}

// roomyCode is a code whose lists have room behind their ends.
func roomyCode(c api.Code) api.Code {
	c.G.Data, c.Groups = roomy(c.G.Data, behind), roomy(c.Groups, behind)
	return c
}

// shown is what all calls answer of a code and a block, as a text.
func shown(c api.Code, b, most int) string {
	reads, by, ok, e := local.Least(c.G, b)
	sizes, e1 := local.Sizes(c.G)
	choices, e2 := local.Choices(c.G, b, most)
	group, ok3, e3 := local.Group(c, b)
	return fmt.Sprintln(reads, by, ok, e, sizes, e1, choices, e2, group, ok3, e3)
}

// handed are codes of all kinds, such that calls refuse among them.
func handed() []api.Code {
	var made []api.Code
	for _, k := range small() {
		made = append(made, api.Code{G: k.g})
	}
	for _, k := range append(shapedSmall(), shapedGreat()[1]) {
		made = append(made, k.c)
	}
	for _, g := range slices.Concat(noGenerators(), notRight()) {
		made = append(made, api.Code{G: g})
	}
	return append(made,
		api.Code{G: of(1, 1, 1), Groups: []api.Set{set(0, 1), set(0)}},
		api.Code{G: must(shape.Reed(20, 20)).G, Groups: []api.Set{math.MaxUint64 >> 24}},
		api.Code{G: identity(64)})
}

// Rule 5: what is handed in stays as it is, the room behind its end too, also
// where a call fails; that room is of no moment, and nothing is kept.
func TestWhatIsHandedInStays(t *testing.T) {
	for i, c := range handed() {
		room := roomyCode(c)
		data, groups := room.G.Data[:cap(room.G.Data)], room.Groups[:cap(room.Groups)]
		heldData, heldGroups := bytes.Clone(data), slices.Clone(groups)
		for _, b := range []int{1, c.G.Rows - 1, c.G.Rows, -1} {
			for _, most := range []int{2, -1} {
				told := shown(room, b, most)
				if !bytes.Equal(data, heldData) || !slices.Equal(groups, heldGroups) {
					t.Fatalf("code %d is changed by the calls with %d", i, b)
				}
				if other := shown(c, b, most); other != told {
					t.Errorf("code %d, %d: %s, without room behind %s", i, b, told, other)
				}
			}
		}
	}
}

// spoil writes over a list, the room behind its end too.
func spoil[T any](list []T, by T) {
	list = list[:cap(list)]
	for i := range list {
		list[i] = by
	}
}

// apart tells where what is done to an answer of a call changes another one, or
// what was handed in, or the other way round.
func apart[T comparable](t *testing.T, name string, g api.Matrix, by T, call func(g api.Matrix) []T) {
	t.Helper()
	first, second := call(g), call(g)
	want, held := slices.Clone(first), bytes.Clone(g.Data[:cap(g.Data)])
	spoil(first, by)
	if !slices.Equal(second, want) || !slices.Equal(call(g), want) {
		t.Errorf("%s: what is done to an answer changes another", name)
	}
	if !bytes.Equal(g.Data[:cap(g.Data)], held) {
		t.Errorf("%s: what is done to an answer changes what was handed in", name)
	}
	spoil(g.Data, behind)
	if !slices.Equal(second, want) {
		t.Errorf("%s: what is done to what was handed in changes an answer", name)
	}
	copy(g.Data[:cap(g.Data)], held)
}

func TestAnswersAreNewMemory(t *testing.T) {
	for _, k := range small() {
		g := k.g
		g.Data = roomy(g.Data, behind)
		apart(t, "Sizes of "+k.name, g, 77, func(g api.Matrix) []int {
			sizes, _ := local.Sizes(g)
			return sizes
		})
		for b := range g.Rows {
			apart(t, "Least of "+k.name, g, 77, func(g api.Matrix) []byte {
				_, by, _, _ := local.Least(g, b)
				return by
			})
			apart(t, "Choices of "+k.name, g, 77, func(g api.Matrix) []api.Set {
				choices, _ := local.Choices(g, b, 3)
				return choices
			})
		}
	}
}

// Rule 4: nil and a list without elements are the same.
func TestNilIsAListWithoutElements(t *testing.T) {
	for _, sides := range [][2]int{{0, 0}, {0, 64}, {64, 0}, {3, 0}, {2, 2}, {0, 1}} {
		for _, b := range []int{0, 1, -1} {
			one := shown(api.Code{G: api.Matrix{Rows: sides[0], Cols: sides[1]}}, b, 1)
			other := shown(api.Code{G: api.Matrix{Rows: sides[0], Cols: sides[1], Data: []byte{}}, Groups: []api.Set{}}, b, 1)
			if one != other {
				t.Errorf("%d, %d: of nil %s, of no elements %s", sides, b, one, other)
			}
		}
	}
	pair := must(shape.Reed(1, 1))
	pair.Groups = []api.Set{}
	if one, other := shown(pair, 0, 1), shown(api.Code{G: pair.G}, 0, 1); one != other {
		t.Errorf("without groups %s, of nil %s", one, other)
	}
}

// Rule 3: errors, and what is not repaired, leave no trace in what comes behind
// them.
func TestErrorsChangeNothing(t *testing.T) {
	c := must(shape.Local(2, 1, 0))
	want := shown(c, 0, 2)
	for range 3 {
		fails(t, api.Matrix{}, 0, api.ErrShape)
		fails(t, c.G, 3, api.ErrArg)
		fails(t, must(shape.Reed(20, 20)).G, 3, api.ErrLimit)
		fails(t, identity(3), 0, api.OK)
		if got := shown(c, 0, 2); got != want {
			t.Errorf("behind errors %s, ahead of them %s", got, want)
		}
	}
}
