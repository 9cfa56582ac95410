package subset_test

import (
	"math"
	"slices"
	"testing"

	"recoup/api"
	"recoup/subset"
)

// roomy is a list with room behind its end, which is filled.
func roomy(list []int) []int {
	room := slices.Repeat([]int{7}, len(list)+8)
	copy(room, list)
	return room[:len(list)]
}

// Rule 5: what is handed in stays as it is, also where the call fails, and
// the room behind its end is of no moment.
func TestWhatIsHandedInStays(t *testing.T) {
	for _, list := range [][]int{
		nil,
		{0},
		{63},
		{3, 0, 3},
		{63, 62, 1, 1, 0},
		rising(0, 64),
		{64},
		{0, -1},
		{5, 4, math.MaxInt, 3},
	} {
		handed := roomy(list)
		before := slices.Clone(handed[:cap(handed)])
		s, e := subset.Of(handed...)
		if !slices.Equal(handed[:cap(handed)], before) {
			t.Errorf("Of(%d) changed what it was handed", list)
		}
		without, e1 := subset.Of(slices.Clip(slices.Clone(list))...)
		if s != without || e != e1 {
			t.Errorf("Of(%d) = %#x, %v, without room behind %#x, %v", list, s, e, without, e1)
		}
		for i := range handed[:cap(handed)] {
			handed[:cap(handed)][i] = 9
		}
		again, e1 := subset.Of(list...)
		if s != again || e != e1 {
			t.Errorf("Of(%d) = %#x, %v, once more %#x, %v", list, s, e, again, e1)
		}
	}
}

// Rule 5: what is answered is new memory, with its room behind the end.
func TestListIsNewMemory(t *testing.T) {
	for _, s := range []api.Set{0, 1, 9, 1 << 63, math.MaxUint64} {
		spoilt, another := subset.List(s), subset.List(s)
		want := slices.Clone(another)
		room := spoilt[:cap(spoilt)]
		for i := range room {
			room[i] = -1
		}
		if !slices.Equal(another, want) {
			t.Errorf("two answers of List(%#x) share memory", s)
		}
		if got := subset.List(s); !slices.Equal(got, want) {
			t.Errorf("List(%#x) hangs on what becomes of its answers: %d, want %d", s, got, want)
		}
	}
}
