package floor_test

import (
	"math"
	"slices"
	"testing"

	"recoup/api"
	"recoup/floor"
)

// P15.4

// rowHomes deals the blocks out in turn.
func rowHomes(blocks, domains int) []int {
	made := make([]int, blocks)
	home := 0
	for b := range made {
		made[b] = home
		home++
		if home == domains {
			home = 0
		}
	}
	return made
}

// spreadHomes finds of each block the last domain that does not begin behind it.
func spreadHomes(blocks, domains int) []int {
	made := make([]int, blocks)
	for b := range made {
		for (made[b]+1)*blocks <= b*domains {
			made[b]++
		}
	}
	return made
}

// spiralHomes goes on from each block's home by the step, round and round.
func spiralHomes(blocks, domains, step int) []int {
	made := make([]int, blocks)
	for b := 1; b < blocks; b++ {
		made[b] = int((uint64(made[b-1]) + uint64(step)) % uint64(domains))
	}
	return made
}

// someSteps are steps that a placement may have.
func someSteps() []int {
	made := []int{1, 2, 3, 5, 7, 31, 32, 33, 62, 63, 64, 65, 127, 128, 1000, 1 << 20, 1 << 30, api.MaxNumber - 1, api.MaxNumber}
	chance := source{15}
	for range 6 {
		made = append(made, 1+chance.below(api.MaxNumber))
	}
	return made
}

// someLists are lists of homes of so many blocks.
func someLists(blocks, domains int) [][]int {
	chance := source{uint64(blocks*65 + domains)}
	chosen := make([]int, blocks)
	for b := range chosen {
		chosen[b] = chance.below(domains)
	}
	return [][]int{chosen, make([]int, blocks), slices.Repeat([]int{domains - 1}, blocks)}
}

// wantHomes asks for the homes of a placement that may be.
func wantHomes(t *testing.T, p api.PlaceKind, blocks, domains, step int, list, want []int) {
	t.Helper()
	if homes, e := floor.Homes(p, blocks, domains, step, list); !slices.Equal(homes, want) || e != api.OK {
		t.Errorf("Homes(%d, %d, %d, %d, %d) = %d, %v, want %d", p, blocks, domains, step, list, homes, e, want)
	}
}

// noHomes asks for the homes of a placement that may not be.
func noHomes(t *testing.T, p api.PlaceKind, blocks, domains, step int, list []int) {
	t.Helper()
	if homes, e := floor.Homes(p, blocks, domains, step, list); len(homes) != 0 || e != api.ErrArg {
		t.Errorf("Homes(%d, %d, %d, %d, %d) = %d, %v, want %v", p, blocks, domains, step, list, homes, e, api.ErrArg)
	}
}

// everySize calls a function with all numbers of blocks and of domains.
func everySize(do func(blocks, domains int)) {
	for blocks := 1; blocks <= 64; blocks++ {
		for domains := 1; domains <= 64; domains++ {
			do(blocks, domains)
		}
	}
}

func TestHomes(t *testing.T) {
	everySize(func(blocks, domains int) {
		wantHomes(t, api.PRow, blocks, domains, 0, nil, rowHomes(blocks, domains))
		wantHomes(t, api.PSpread, blocks, domains, 0, nil, spreadHomes(blocks, domains))
		for _, step := range someSteps() {
			wantHomes(t, api.PSpiral, blocks, domains, step, nil, spiralHomes(blocks, domains, step))
		}
		for _, list := range someLists(blocks, domains) {
			wantHomes(t, api.PList, blocks, domains, 0, list, list)
		}
	})
}

func TestSomeHomes(t *testing.T) {
	wantHomes(t, api.PRow, 5, 2, 0, nil, []int{0, 1, 0, 1, 0})
	wantHomes(t, api.PSpread, 5, 2, 0, nil, []int{0, 0, 0, 1, 1})
	wantHomes(t, api.PSpread, 2, 5, 0, nil, []int{0, 2})
	wantHomes(t, api.PSpiral, 4, 3, 2, nil, []int{0, 2, 1, 0})
	wantHomes(t, api.PSpiral, 4, 5, 5, nil, []int{0, 0, 0, 0})
	wantHomes(t, api.PSpiral, 3, 64, api.MaxNumber, nil, []int{0, 63, 62})
	wantHomes(t, api.PList, 2, 3, 0, []int{2, 2}, []int{2, 2})
	wantHomes(t, api.PRow, 1, 1, 0, nil, []int{0})
}

// An empty list is none.
func TestHomesOfNoList(t *testing.T) {
	for _, none := range [][]int{nil, {}, make([]int, 0, 9)} {
		wantHomes(t, api.PRow, 3, 2, 0, none, []int{0, 1, 0})
		wantHomes(t, api.PSpread, 3, 2, 0, none, []int{0, 0, 1})
		wantHomes(t, api.PSpiral, 3, 2, 1, none, []int{0, 1, 0})
		noHomes(t, api.PList, 3, 2, 0, none)
	}
}

// fitting is a step and a list that the kind may have.
func fitting(p api.PlaceKind, blocks int) (int, []int) {
	switch p {
	case api.PSpiral:
		return 1, nil
	case api.PList:
		return 0, make([]int, max(0, min(blocks, 70)))
	}
	return 0, nil
}

// kinds are all kinds of placements.
func kinds() []api.PlaceKind {
	return []api.PlaceKind{api.PRow, api.PSpread, api.PSpiral, api.PList}
}

func TestHomesOfNoSuchSize(t *testing.T) {
	for _, p := range kinds() {
		for _, n := range someInts() {
			if n >= 1 && n <= 64 {
				continue
			}
			for _, right := range []int{1, 2, 63, 64, n} {
				step, list := fitting(p, n)
				noHomes(t, p, n, right, step, list)
				step, list = fitting(p, right)
				noHomes(t, p, right, n, step, list)
			}
		}
	}
}

func TestHomesOfNoSuchKind(t *testing.T) {
	for p := range 256 {
		if slices.Contains(kinds(), api.PlaceKind(p)) {
			continue
		}
		noHomes(t, api.PlaceKind(p), 1, 1, 0, nil)
		noHomes(t, api.PlaceKind(p), 2, 3, 1, nil)
		noHomes(t, api.PlaceKind(p), 2, 3, 0, []int{0, 1})
		noHomes(t, api.PlaceKind(p), 64, 64, 0, nil)
	}
}

func TestHomesOfNoSuchStep(t *testing.T) {
	for _, step := range someInts() {
		for _, p := range kinds() {
			may := step == 0
			if p == api.PSpiral {
				may = step >= 1 && step <= api.MaxNumber
			}
			_, list := fitting(p, 5)
			if may {
				_, e := floor.Homes(p, 5, 3, step, list)
				if e != api.OK {
					t.Errorf("Homes(%d, 5, 3, %d) = %v", p, step, e)
				}
				continue
			}
			noHomes(t, p, 5, 3, step, list)
		}
	}
}

func TestHomesOfNoSuchList(t *testing.T) {
	for blocks := 1; blocks <= 64; blocks++ {
		for length := range 70 {
			if length != blocks {
				noHomes(t, api.PList, blocks, 3, 0, make([]int, length))
			}
		}
		for at := range blocks {
			for _, wrong := range []int{-1, 3, 4, 63, 64, math.MaxInt, math.MinInt, 1 << 32} {
				list := make([]int, blocks)
				list[at] = wrong
				noHomes(t, api.PList, blocks, 3, 0, list)
			}
		}
	}
	noHomes(t, api.PRow, 1, 1, 0, []int{0})
	noHomes(t, api.PRow, 2, 3, 0, []int{0, 1})
	noHomes(t, api.PSpread, 2, 3, 0, []int{0, 1})
	noHomes(t, api.PSpiral, 2, 3, 1, []int{0, 1})
	noHomes(t, api.PList, 2, 3, 1, []int{0, 1})
}

func TestBlocks(t *testing.T) {
	any := someInts()
	chance := source{4}
	for length := range 65 {
		homes := make([]int, length)
		for range 20 {
			for b := range homes {
				homes[b] = any[chance.below(len(any))]
			}
			for _, d := range append(any, 7, -7, 99) {
				var want api.Set
				for b := range homes {
					if homes[b] == d {
						want |= set(b)
					}
				}
				if s, e := floor.Blocks(homes, d); s != want || e != api.OK {
					t.Fatalf("Blocks(%d, %d) = %#x, %v, want %#x", homes, d, s, e, want)
				}
			}
		}
	}
}

func TestSomeBlocks(t *testing.T) {
	for _, c := range []struct {
		homes []int
		d     int
		want  api.Set
	}{
		{nil, 0, 0},
		{[]int{}, 5, 0},
		{[]int{0, 1, 0}, 0, set(0, 2)},
		{[]int{0}, 7, 0},
		{[]int{-5, 3, -5}, -5, set(0, 2)},
		{[]int{math.MaxInt, math.MinInt}, math.MinInt, set(1)},
		{make([]int, 64), 0, math.MaxUint64},
		{append(make([]int, 63), 9), 9, set(63)},
		{[]int{64, 0}, 64, set(0)},
	} {
		if s, e := floor.Blocks(c.homes, c.d); s != c.want || e != api.OK {
			t.Errorf("Blocks(%d, %d) = %#x, %v, want %#x", c.homes, c.d, s, e, c.want)
		}
	}
}

func TestBlocksOfTooMany(t *testing.T) {
	for _, length := range []int{65, 66, 100, 128, 1 << 16} {
		for _, d := range []int{0, 1, -1, math.MaxInt, math.MinInt} {
			if s, e := floor.Blocks(make([]int, length), d); s != 0 || e != api.ErrArg {
				t.Errorf("Blocks of %d homes, %d = %#x, %v, want %v", length, d, s, e, api.ErrArg)
			}
		}
	}
}
