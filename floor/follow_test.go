package floor_test

import (
	"math/bits"
	"testing"

	"recoup/api"
	"recoup/floor"
)

// P15.5

// cellsOf is the whole spiral.
func cellsOf(t *testing.T) []complex128 {
	t.Helper()
	cells, e := floor.Spiral(64)
	if len(cells) != 64 || e != api.OK {
		t.Fatalf("Spiral(64) has %d cells, %v", len(cells), e)
	}
	return cells
}

// way is how far apart two cells are.
func way(t *testing.T, a, b complex128) int {
	t.Helper()
	n, e := floor.Apart(a, b)
	if e != api.OK {
		t.Fatalf("Apart(%v, %v): %v", a, b, e)
	}
	return n
}

// turned is a cell that is turned.
func turned(t *testing.T, z complex128, quarters int) complex128 {
	t.Helper()
	z, e := floor.Turn(z, quarters)
	if e != api.OK {
		t.Fatalf("Turn by %d: %v", quarters, e)
	}
	return z
}

func TestSpiralGoesStepByStep(t *testing.T) {
	met := map[complex128]bool{}
	cells := cellsOf(t)
	for d, z := range cells {
		if met[z] {
			t.Errorf("the cell %v is met twice", z)
		}
		met[z] = true
		if d > 0 && way(t, cells[d-1], z) != 1 {
			t.Errorf("%v follows %v", z, cells[d-1])
		}
		if at, ok := floor.At(z); at != d || !ok {
			t.Errorf("At(%v) = %d, %v, want %d", z, at, ok, d)
		}
	}
}

func TestTurnsGoRound(t *testing.T) {
	for _, s := range someSpots() {
		z := s.cell()
		if turned(t, z, 4) != z || turned(t, z, -4) != z || turned(t, z, 0) != z {
			t.Errorf("four quarters turn %v to another cell", z)
		}
		step := z
		for range 4 {
			step = turned(t, step, 1)
		}
		if step != z {
			t.Errorf("%v turned left four times is %v", z, step)
		}
		for q := -5; q <= 5; q++ {
			if turned(t, turned(t, z, q), -q) != z {
				t.Errorf("%v turned by %d, and back, is another cell", z, q)
			}
			if turned(t, turned(t, z, q), 1) != turned(t, z, q+1) {
				t.Errorf("%v turned by %d and by 1 is not turned by %d", z, q, q+1)
			}
		}
	}
}

func TestTurnedAlikeAsFarApart(t *testing.T) {
	all := someSpots()
	for i, s := range all {
		for _, other := range all[i:] {
			a, b := s.cell(), other.cell()
			for q := range 4 {
				if way(t, turned(t, a, q), turned(t, b, q)) != way(t, a, b) {
					t.Errorf("%v and %v turned by %d are not as far apart", a, b, q)
				}
			}
		}
	}
}

func TestApartEitherWayAndOverAThird(t *testing.T) {
	cells := cellsOf(t)
	for _, s := range someSpots()[:28] {
		cells = append(cells, s.cell())
	}
	for _, a := range cells {
		for _, b := range cells {
			n := way(t, a, b)
			if n != way(t, b, a) {
				t.Errorf("from %v to %v is not as far as back", a, b)
			}
			if (n == 0) != (a == b) {
				t.Errorf("%v and %v are %d apart", a, b, n)
			}
			for _, c := range cells {
				if way(t, a, c)+way(t, c, b) < n {
					t.Errorf("from %v to %v it is nearer over %v", a, b, c)
				}
			}
		}
	}
}

func TestEachDomainInOneAisle(t *testing.T) {
	for n := 1; n <= 64; n++ {
		aisles := map[api.Set]bool{}
		for d := range n {
			s, e := floor.Aisle(n, d)
			if e != api.OK || s>>d&1 == 0 {
				t.Errorf("Aisle(%d, %d) = %#x, %v is without its domain", n, d, s, e)
			}
			aisles[s] = true
		}
		var met api.Set
		count := 0
		for s := range aisles {
			met |= s
			count += bits.OnesCount64(uint64(s))
		}
		if count != n || met != api.Set(1)<<(n-1)<<1-1 {
			t.Errorf("the aisles of %d domains have %d, %#x", n, count, met)
		}
	}
}

// P15.6

// homesOf are the homes of some placements of each kind.
func homesOf(t *testing.T, p api.PlaceKind, blocks, domains int) [][]int {
	t.Helper()
	steps, lists := []int{0}, [][]int{nil}
	switch p {
	case api.PSpiral:
		steps = someSteps()[:6]
	case api.PList:
		lists = someLists(blocks, domains)
	}
	var made [][]int
	for _, step := range steps {
		for _, list := range lists {
			homes, e := floor.Homes(p, blocks, domains, step, list)
			if e != api.OK || len(homes) != blocks {
				t.Fatalf("Homes(%d, %d, %d, %d, %d) = %d, %v", p, blocks, domains, step, list, homes, e)
			}
			made = append(made, homes)
		}
	}
	return made
}

// shares are the sets of blocks of all domains.
func shares(t *testing.T, homes []int, domains int) []api.Set {
	t.Helper()
	made := make([]api.Set, domains)
	for d := range made {
		s, e := floor.Blocks(homes, d)
		if e != api.OK {
			t.Fatalf("Blocks(%d, %d): %v", homes, d, e)
		}
		made[d] = s
	}
	return made
}

func TestEachBlockIsInItsHomeAlone(t *testing.T) {
	for _, p := range kinds() {
		everySize(func(blocks, domains int) {
			for _, homes := range homesOf(t, p, blocks, domains) {
				parts := shares(t, homes, domains)
				var met api.Set
				for d, s := range parts {
					if met&s != 0 {
						t.Errorf("a block of %d is in two domains, one being %d", homes, d)
					}
					met |= s
				}
				for b, home := range homes {
					if home < 0 || home >= domains || parts[home]>>b&1 == 0 {
						t.Errorf("the block %d of %d is not at home", b, homes)
					}
				}
				if bits.OnesCount64(uint64(met)) != blocks {
					t.Errorf("the domains of %d have other blocks: %#x", homes, met)
				}
			}
		})
	}
}

func TestRowsAndSpreadsAreEven(t *testing.T) {
	for _, p := range []api.PlaceKind{api.PRow, api.PSpread} {
		everySize(func(blocks, domains int) {
			least, most := 64, 0
			for _, s := range shares(t, homesOf(t, p, blocks, domains)[0], domains) {
				least = min(least, bits.OnesCount64(uint64(s)))
				most = max(most, bits.OnesCount64(uint64(s)))
			}
			if most-least > 1 {
				t.Errorf("kind %d: %d blocks in %d domains are from %d to %d", p, blocks, domains, least, most)
			}
		})
	}
}
