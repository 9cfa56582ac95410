package local_test

import (
	"math"
	"testing"

	"recoup/api"
	"recoup/local"
	"recoup/shape"
)

// P19.4

// groupIs tells where Group answers otherwise than this.
func groupIs(t *testing.T, name string, c api.Code, b int, want api.Set, there bool, wrong api.Errno) {
	t.Helper()
	if reads, ok, e := local.Group(c, b); reads != want || ok != there || e != wrong {
		t.Errorf("%s with the groups %v: Group of %d = %v, %v, %v, want %v, %v, %v", name, c.Groups, b, numbersOf(reads), ok, e, numbersOf(want), there, wrong)
	}
}

// slowGroup is the first group that has b, without it.
func slowGroup(c api.Code, b int) (reads api.Set, ok bool) {
	for _, group := range c.Groups {
		list := numbersOf(group)
		for place, number := range list {
			if number == b {
				return set(append(list[:place], list[place+1:]...)...), true
			}
		}
	}
	return 0, false
}

// shapedGreat are codes with groups and up to as many blocks as may be.
func shapedGreat() []code {
	pair, triple := must(shape.Local(2, 1, 0)), must(shape.Pyramid(3, 1, 1))
	return []code{
		{"local(48, 6, 10)", must(shape.Local(48, 6, 10))},
		{"local(32, 32, 0)", must(shape.Local(32, 32, 0))},
		{"local(63, 1, 0)", must(shape.Local(63, 1, 0))},
		{"pyramid(30, 10, 5)", must(shape.Pyramid(30, 10, 5))},
		{"product of three", must(shape.Product(must(shape.Product(pair, triple)), pair))},
		{"join", must(shape.Join(must(shape.Local(20, 4, 6)), must(shape.Pyramid(21, 3, 8))))},
		{"reed(32, 32)", must(shape.Reed(32, 32))},
	}
}

func TestGroup(t *testing.T) {
	told := map[bool]int{}
	for _, k := range append(shapedSmall(), shapedGreat()...) {
		for b := range k.c.G.Rows {
			want, there := slowGroup(k.c, b)
			told[there]++
			groupIs(t, k.name, k.c, b, want, there, api.OK)
		}
	}
	if told[true] < 100 || told[false] < 50 {
		t.Errorf("nearly all alike: %v", told)
	}
}

// The first of the groups that have the block, in whatever order they stand,
// the least or not.
func TestGroupIsTheFirstOne(t *testing.T) {
	g := of(2, 1, 0, 0, 1, 1, 1, 2, 2, 0, 0)
	groups := []api.Set{set(0, 1, 2), set(0, 1, 3), set(2, 3), set(0, 1, 2, 3), set(0, 1, 2, 3, 4), set(4), 0, set(2, 3, 4)}
	told := 0
	for seed := range 200 {
		from := seeded(seed)
		c := api.Code{G: g}
		for _, place := range from.shuffled(len(groups))[:from.below(len(groups)+1)] {
			c.Groups = append(c.Groups, groups[place])
		}
		if len(c.Groups) > 3 {
			told++
		}
		for b := range g.Rows {
			want, there := slowGroup(c, b)
			groupIs(t, "groups in any order", c, b, want, there, api.OK)
		}
	}
	if told < 50 {
		t.Errorf("%d codes with many groups", told)
	}
}

func TestGroupAtTheEdges(t *testing.T) {
	pair := must(shape.Local(2, 1, 0))
	groupIs(t, "the example", pair, 1, set(0, 2), true, api.OK)
	groupIs(t, "the example", must(shape.Reed(1, 1)), 0, 0, false, api.OK)
	nought := api.Code{G: of(1, 1, 0), Groups: []api.Set{0, set(1)}}
	groupIs(t, "a nought alone", nought, 1, 0, true, api.OK)
	groupIs(t, "a block beside it", nought, 0, 0, false, api.OK)
	all := must(shape.Local(63, 1, 0))
	groupIs(t, "all blocks", all, 63, 1<<63-1, true, api.OK)
	groupIs(t, "all blocks", all, 0, math.MaxUint64-1, true, api.OK)
	many := api.Code{G: of(1, 1, 1), Groups: make([]api.Set, 100000)}
	groupIs(t, "many empty groups", many, 1, 0, false, api.OK)
	many.Groups[99999] = set(0, 1)
	groupIs(t, "many empty groups and one", many, 1, set(0), true, api.OK)
}

// ErrShape of a code that may not be, by its generator or by a group, though
// another group has the block; it stands ahead of ErrArg.
func TestGroupOfCodesThatMayNotBe(t *testing.T) {
	pair := must(shape.Local(2, 1, 0))
	for _, b := range []int{0, 1, 2, 3, 64, -1, math.MinInt, math.MaxInt} {
		for _, bad := range []api.Set{set(0), set(2), set(0, 1), set(3), set(0, 1, 2, 3), set(63), math.MaxUint64} {
			for _, groups := range [][]api.Set{{bad}, {set(0, 1, 2), bad}, {bad, set(0, 1, 2)}, {0, bad, 0}} {
				groupIs(t, "a group that may not be", api.Code{G: pair.G, Groups: groups}, b, 0, false, api.ErrShape)
			}
		}
		for _, g := range append(notRight(), noGenerators()...) {
			groupIs(t, "no generator", api.Code{G: g}, b, 0, false, api.ErrShape)
			groupIs(t, "no generator", api.Code{G: g, Groups: []api.Set{0}}, b, 0, false, api.ErrShape)
		}
	}
}

func TestGroupOfBlocksThatAreNone(t *testing.T) {
	for _, k := range append(shapedSmall(), shapedGreat()...) {
		for _, b := range []int{-1, -64, math.MinInt, k.c.G.Rows, k.c.G.Rows + 1, 64, 65, 128, math.MaxInt} {
			groupIs(t, k.name, k.c, b, 0, false, api.ErrArg)
		}
	}
}
