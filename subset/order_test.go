package subset_test

import (
	"math"
	"slices"
	"testing"

	"recoup/api"
	"recoup/subset"
)

// none tells where Next did not answer that there is none.
func none(t *testing.T, n int, s api.Set) {
	t.Helper()
	if got, ok := subset.Next(n, s); got != 0 || ok {
		t.Errorf("Next(%d, %#x) = %#x, %v, want none", n, s, got, ok)
	}
}

// sets are those of lists.
func sets(lists [][]int) []api.Set {
	var made []api.Set
	for _, list := range lists {
		made = append(made, setOf(list))
	}
	return made
}

// P6.3
func TestNext(t *testing.T) {
	for n := range 65 {
		for _, list := range kinds(n) {
			want, there := slowNext(n, list)
			got, ok := subset.Next(n, setOf(list))
			if got != setOf(want) || ok != there {
				t.Errorf("Next(%d, %d) = %d, %v, want %d, %v", n, list, subset.List(got), ok, want, there)
			}
		}
	}
}

func TestNextOfSmallOnes(t *testing.T) {
	for n := range 11 {
		for k := range n + 1 {
			all := sets(slowAll(0, n, k))
			for i := range all[1:] {
				if got, ok := subset.Next(n, all[i]); got != all[i+1] || !ok {
					t.Errorf("Next(%d, %#x) = %#x, %v, want %#x", n, all[i], got, ok, all[i+1])
				}
			}
			none(t, n, all[len(all)-1])
		}
	}
}

func TestNextOfExamples(t *testing.T) {
	for _, c := range []struct {
		n       int
		s, next api.Set
	}{
		{4, 3, 5},
		{4, 5, 9},
		{4, 9, 6},
		{2, 1, 2},
		{64, 1, 2},
		{64, 1 << 62, 1 << 63},
		{64, 1<<63 | 1, 6},
		{64, 1<<63 | 1<<61, 1<<63 | 1<<62},
		{64, math.MaxUint64 >> 1, 1<<63 | math.MaxUint64>>2},
		{64, math.MaxUint64 - 2, math.MaxUint64 - 1},
		{63, 1<<62 - 1, 1<<62 | (1<<61 - 1)},
	} {
		if got, ok := subset.Next(c.n, c.s); got != c.next || !ok {
			t.Errorf("Next(%d, %#x) = %#x, %v, want %#x", c.n, c.s, got, ok, c.next)
		}
	}
	none(t, 4, 12)
	none(t, 4, 16)
	none(t, 4, 0)
}

// The last set of each size has none behind it.
func TestNextOfTheLast(t *testing.T) {
	for n := range 65 {
		for k := range n + 1 {
			none(t, n, setOf(rising(n-k, n)))
		}
	}
}

func TestNextOfNoSetOfN(t *testing.T) {
	for n := range 64 {
		for number := n; number < 64; number++ {
			one := api.Set(1) << number
			none(t, n, one)
			none(t, n, one|1)
			none(t, n, math.MaxUint64)
		}
	}
}

func TestNextOfWrongBounds(t *testing.T) {
	for _, n := range notBounds() {
		for _, s := range []api.Set{0, 1, 3, 9, 1 << 62, 1 << 63, math.MaxUint64 >> 1, math.MaxUint64} {
			none(t, n, s)
		}
	}
}

func TestAll(t *testing.T) {
	for n := range 13 {
		for k := range n + 1 {
			want := sets(slowAll(0, n, k))
			if got := slices.Collect(subset.All(n, k)); !slices.Equal(got, want) {
				t.Errorf("All(%d, %d) = %d, want %d", n, k, got, want)
			}
		}
	}
}

func TestAllOfGreatBounds(t *testing.T) {
	for _, n := range []int{31, 32, 33, 62, 63, 64} {
		for _, k := range []int{0, 1, 2, 3, n - 2, n - 1, n} {
			want := sets(slowAll(0, n, k))
			if got := slices.Collect(subset.All(n, k)); !slices.Equal(got, want) {
				t.Errorf("All(%d, %d) tells %d sets, not the %d that there are", n, k, len(got), len(want))
			}
		}
	}
}

func TestAllOfExamples(t *testing.T) {
	for _, c := range []struct {
		n, k int
		want []api.Set
	}{
		{4, 2, []api.Set{3, 5, 9, 6, 10, 12}},
		{3, 0, []api.Set{0}},
		{0, 0, []api.Set{0}},
		{64, 0, []api.Set{0}},
		{64, 64, []api.Set{math.MaxUint64}},
		{3, 3, []api.Set{7}},
		{3, 4, nil},
		{3, -1, nil},
		{65, 1, nil},
	} {
		if got := slices.Collect(subset.All(c.n, c.k)); !slices.Equal(got, c.want) {
			t.Errorf("All(%d, %d) = %d, want %d", c.n, c.k, got, c.want)
		}
	}
}

func TestAllOfNothing(t *testing.T) {
	for n := range 65 {
		for _, k := range notSizes(n) {
			for s := range subset.All(n, k) {
				t.Fatalf("All(%d, %d) tells %#x", n, k, s)
			}
		}
	}
	for _, n := range notBounds() {
		for _, k := range append([]int{0, 1, 64, n}, notSizes(64)...) {
			for s := range subset.All(n, k) {
				t.Fatalf("All(%d, %d) tells %#x", n, k, s)
			}
		}
	}
}

// Once it is left nothing more is told, or the range would panic.
func TestAllLeftEarly(t *testing.T) {
	for _, c := range [][2]int{{4, 2}, {4, 0}, {4, 4}, {0, 0}, {12, 5}, {64, 2}, {64, 32}, {64, 64}} {
		for stop := range 30 {
			var told []api.Set
			for s := range subset.All(c[0], c[1]) {
				told = append(told, s)
				if len(told) > stop {
					break
				}
			}
			var want []api.Set
			list, there := rising(0, c[1]), true
			for there && len(want) <= stop {
				want = append(want, setOf(list))
				list, there = slowNext(c[0], list)
			}
			if !slices.Equal(told, want) {
				t.Errorf("All(%d, %d), left at %d, tells %d, want %d", c[0], c[1], stop, told, want)
			}
		}
	}
}

// The same one may be gone over again, from the beginning, also while another
// is going over it.
func TestAllOnceMore(t *testing.T) {
	all := subset.All(5, 3)
	want := sets(slowAll(0, 5, 3))
	for range all {
		break
	}
	for range 2 {
		if got := slices.Collect(all); !slices.Equal(got, want) {
			t.Errorf("All(5, 3), gone over again, tells %d, want %d", got, want)
		}
	}
	var outer []api.Set
	for s := range all {
		outer = append(outer, s)
		if inner := slices.Collect(all); !slices.Equal(inner, want) {
			t.Errorf("All(5, 3), within itself, tells %d, want %d", inner, want)
		}
	}
	if !slices.Equal(outer, want) {
		t.Errorf("All(5, 3), around itself, tells %d, want %d", outer, want)
	}
}
