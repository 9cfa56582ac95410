package subset_test

import (
	"slices"
	"testing"

	"recoup/api"
	"recoup/subset"
)

// many are bounds and sizes of which all sets may be gone over.
func many() [][2]int {
	made := [][2]int{{20, 10}, {31, 4}, {32, 29}, {33, 3}, {63, 2}, {63, 60}, {64, 0}, {64, 1}, {64, 2}, {64, 3}, {64, 61}, {64, 63}, {64, 64}}
	for n := range 13 {
		for k := range n + 1 {
			made = append(made, [2]int{n, k})
		}
	}
	return made
}

// P6.5: each told set has its place, stands behind the one ahead, which Next
// sends to it, and there are as many as Choose says.
func TestAllHaveTheirPlaces(t *testing.T) {
	for _, c := range many() {
		n, k := c[0], c[1]
		told := 0
		var ahead api.Set
		for s := range subset.All(n, k) {
			place, e := subset.Place(n, s)
			is(t, "Place", n, k, place, e, told)
			at, e := subset.At(n, k, told)
			is(t, "At", n, k, at, e, s)
			if told > 0 {
				follows(t, n, ahead, s)
			}
			if subset.Count(s) != k || (n < 64 && s>>n != 0) {
				t.Errorf("All(%d, %d) tells %#x", n, k, s)
			}
			ahead = s
			told++
		}
		none(t, n, ahead)
		count, e := subset.Choose(n, k)
		is(t, "Choose", n, k, count, e, told)
	}
}

// follows tells where one set is not told next behind another, or does not
// stand behind it in the order.
func follows(t *testing.T, n int, ahead, s api.Set) {
	t.Helper()
	if next, ok := subset.Next(n, ahead); next != s || !ok {
		t.Errorf("Next(%d, %#x) = %#x, %v, want %#x", n, ahead, next, ok, s)
	}
	if slices.Compare(subset.List(ahead), subset.List(s)) >= 0 {
		t.Errorf("%d is told ahead of %d", subset.List(ahead), subset.List(s))
	}
}

// Where there are too many to go over: from any place on, some steps.
func TestPlacesOfGreatBounds(t *testing.T) {
	from := seeded(4)
	for n := 20; n <= 64; n++ {
		for k := 1; k < n; k++ {
			count, e := subset.Choose(n, k)
			if e != api.OK {
				t.Fatal(n, k, e)
			}
			place := from.below(count)
			s, e := subset.At(n, k, place)
			if e != api.OK {
				t.Fatal(n, k, place, e)
			}
			for place++; place < count && place%10 != 0; place++ {
				next, e := subset.At(n, k, place)
				if e != api.OK {
					t.Fatal(n, k, place, e)
				}
				follows(t, n, s, next)
				got, e := subset.Place(n, next)
				is(t, "Place", n, k, got, e, place)
				s = next
			}
		}
	}
}

func TestChooseIsTheSumOfTwo(t *testing.T) {
	for n := 1; n <= 64; n++ {
		for k := -2; k <= n+2; k++ {
			count, e := subset.Choose(n, k)
			with, e1 := subset.Choose(n-1, k-1)
			without, e2 := subset.Choose(n-1, k)
			if e != api.OK || e1 != api.OK || e2 != api.OK || count != with+without {
				t.Errorf("Choose(%d, %d) = %d, not %d + %d", n, k, count, with, without)
			}
		}
	}
}

// A set and its list are one.
func TestOfItsList(t *testing.T) {
	from := seeded(5)
	for range 1000 {
		s := api.Set(from.word() & from.word())
		list := subset.List(s)
		back, e := subset.Of(list...)
		is(t, "Of its list", 64, len(list), back, e, s)
		if len(list) != subset.Count(s) || !slices.IsSorted(list) {
			t.Errorf("List(%#x) = %d, Count %d", s, list, subset.Count(s))
		}
	}
}

// Full is the only set of n of the size n.
func TestFullIsTheOnlyOne(t *testing.T) {
	for n := range 65 {
		full, e := subset.Full(n)
		if e != api.OK {
			t.Fatal(n, e)
		}
		if all := slices.Collect(subset.All(n, n)); !slices.Equal(all, []api.Set{full}) {
			t.Errorf("All(%d, %d) = %#x, want %#x", n, n, all, full)
		}
	}
}
