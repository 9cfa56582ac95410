package floor_test

import (
	"math"
	"slices"
	"testing"

	"recoup/api"
	"recoup/floor"
)

// Rules 1, 3 and 5.

// roomy is a list with room behind its end, which is filled.
func roomy(list []int) []int {
	room := slices.Repeat([]int{7}, len(list)+8)
	copy(room, list)
	return room[:len(list)]
}

func TestSpiralIsNewMemory(t *testing.T) {
	for n := range 65 {
		spoilt, _ := floor.Spiral(n)
		another, _ := floor.Spiral(n)
		want := slices.Clone(another)
		room := spoilt[:cap(spoilt)]
		for i := range room {
			room[i] = 77i
		}
		if !slices.Equal(another, want) {
			t.Errorf("two answers of Spiral(%d) share memory", n)
		}
		if got, _ := floor.Spiral(n); !slices.Equal(got, want) {
			t.Errorf("Spiral(%d) hangs on what becomes of its answers", n)
		}
		if at, ok := floor.At(77i); at != 0 || ok {
			t.Errorf("At hangs on what becomes of the answers of Spiral")
		}
	}
}

func TestHomesAreNewMemory(t *testing.T) {
	for _, p := range kinds() {
		for blocks := 1; blocks <= 64; blocks++ {
			step, list := fitting(p, blocks)
			handed := roomy(list)
			before := slices.Clone(handed[:cap(handed)])
			spoilt, _ := floor.Homes(p, blocks, 64, step, handed)
			another, _ := floor.Homes(p, blocks, 64, step, handed)
			want := slices.Clone(another)
			room := spoilt[:cap(spoilt)]
			for i := range room {
				room[i] = -9
			}
			if !slices.Equal(handed[:cap(handed)], before) {
				t.Errorf("kind %d: an answer of %d blocks shares memory with what was handed in", p, blocks)
			}
			if !slices.Equal(another, want) {
				t.Errorf("kind %d: two answers of %d blocks share memory", p, blocks)
			}
			for i := range handed[:cap(handed)] {
				handed[:cap(handed)][i] = 9
			}
			if !slices.Equal(another, want) {
				t.Errorf("kind %d: what is done to the list changes an answer of %d blocks", p, blocks)
			}
		}
	}
}

// What is handed in stays as it is, also where the call fails.
func TestWhatIsHandedInStays(t *testing.T) {
	for _, list := range [][]int{nil, {0}, {2, 1, 0}, {3}, {-1, 0, 0}, {0, 0, math.MaxInt}, make([]int, 64), make([]int, 65)} {
		handed := roomy(list)
		before := slices.Clone(handed[:cap(handed)])
		for _, p := range append(kinds(), api.NoPlace, 9) {
			floor.Homes(p, len(list), 3, 0, handed)
			floor.Homes(p, 3, 3, 1, handed)
			floor.Homes(p, 0, -1, math.MinInt, handed)
		}
		floor.Blocks(handed, 0)
		floor.Blocks(handed, -1)
		if !slices.Equal(handed[:cap(handed)], before) {
			t.Errorf("the list %d was changed", list)
		}
	}
}

// The room behind a list's end is of no moment.
func TestRoomBehindTheEnd(t *testing.T) {
	full := make([]int, 65, 99)
	if s, e := floor.Blocks(full[:3], 0); s != 7 || e != api.OK {
		t.Errorf("Blocks of three = %#x, %v", s, e)
	}
	wantHomes(t, api.PList, 3, 1, 0, full[:3], []int{0, 0, 0})
	wantHomes(t, api.PRow, 3, 1, 0, full[:0], []int{0, 0, 0})
	noHomes(t, api.PList, 3, 1, 0, full[:2])
}

// An error changes nothing: the next call answers as ever.
func TestErrorsChangeNothing(t *testing.T) {
	for range 3 {
		floor.Spiral(-1)
		floor.Spiral(65)
		floor.Turn(0.5, 1)
		floor.Apart(0, 0.5)
		floor.Aisle(65, 0)
		floor.Near(9, 0, -1)
		floor.Homes(api.PSpiral, 4, 3, 0, nil)
		floor.Blocks(make([]int, 65), 0)
		if cells, e := floor.Spiral(3); !slices.Equal(cells, []complex128{0, 1, 1 + 1i}) || e != api.OK {
			t.Errorf("Spiral(3) = %v, %v", cells, e)
		}
		if z, e := floor.Turn(1, 1); z != 1i || e != api.OK {
			t.Errorf("Turn(1, 1) = %v, %v", z, e)
		}
		if s, e := floor.Aisle(9, 1); s != set(1, 2, 8) || e != api.OK {
			t.Errorf("Aisle(9, 1) = %#x, %v", s, e)
		}
		wantHomes(t, api.PSpiral, 4, 3, 2, nil, []int{0, 2, 1, 0})
	}
}

// Every call ends, whatever it is given.
func TestAnythingAtAll(t *testing.T) {
	numbers, lists := someInts(), [][]int{nil, {0}, someInts(), make([]int, 64), make([]int, 1000)}
	parts := append(noPart(), 0, math.Copysign(0, -1), 1, -4, 1<<20)
	for _, x := range parts {
		for _, y := range parts {
			z := complex(x, y)
			floor.At(z)
			floor.Turn(z, math.MinInt)
			floor.Apart(z, complex(y, x))
		}
	}
	for _, a := range numbers {
		floor.Spiral(a)
		for _, b := range numbers {
			floor.Aisle(a, b)
			for _, c := range numbers {
				floor.Near(a, b, c)
				for p := range api.PlaceKind(7) {
					floor.Homes(p, a, b, c, lists[(uint(a)+uint(b)+uint(c))%5])
				}
			}
		}
		for _, list := range lists {
			floor.Blocks(list, a)
		}
	}
}
