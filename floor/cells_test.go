package floor_test

import (
	"math"
	"testing"

	"recoup/api"
	"recoup/floor"
)

// P15.2

// quarters are numbers of quarters, each with how many of them are left behind
// whole turns.
func quarters() map[int]int {
	made := map[int]int{math.MaxInt: 3, math.MaxInt - 1: 2, math.MaxInt - 3: 0, math.MinInt: 0, math.MinInt + 1: 1, math.MinInt + 2: 2, math.MinInt + 3: 3}
	for q := range 4 {
		for _, whole := range []int{0, 1, 2, 25, 1 << 20, 1 << 40, -1, -2, -25, -1 << 20, -1 << 40} {
			made[4*whole+q] = q
		}
	}
	return made
}

func TestTurn(t *testing.T) {
	for _, s := range someSpots() {
		for q, rest := range quarters() {
			want := s
			for range rest {
				want = want.left()
			}
			if z, e := floor.Turn(s.cell(), q); z != want.cell() || e != api.OK {
				t.Errorf("Turn(%v, %d) = %v, %v, want %v", s, q, z, e, want)
			}
		}
	}
}

func TestTurnRight(t *testing.T) {
	for _, c := range []struct {
		z, want  complex128
		quarters int
	}{
		{2 + 1i, -1 + 2i, 1},
		{2 + 1i, 1 - 2i, -1},
		{2 + 1i, -2 - 1i, -2},
		{2 + 1i, -1 + 2i, -3},
		{2 + 1i, 2 + 1i, -4},
		{1, -1, 6},
		{1 << 20, -(1 << 20) * 1i, -1},
		{(1 << 20) + (1<<20)*1i, (1 << 20) - (1<<20)*1i, 3},
	} {
		if z, e := floor.Turn(c.z, c.quarters); z != c.want || e != api.OK {
			t.Errorf("Turn(%v, %d) = %v, %v, want %v", c.z, c.quarters, z, e, c.want)
		}
	}
}

func TestTurnOfNoCell(t *testing.T) {
	for _, z := range noCells() {
		for _, q := range []int{0, 1, 2, 3, 4, -1, math.MaxInt, math.MinInt} {
			if got, e := floor.Turn(z, q); got != 0 || e != api.ErrArg {
				t.Errorf("Turn(%v, %d) = %v, %v, want %v", z, q, got, e, api.ErrArg)
			}
		}
	}
}

// No sign of a nought is told, whichever sign it had, and whatever was turned.
func TestTurnTellsNoSignOfNoughts(t *testing.T) {
	nought := math.Copysign(0, -1)
	for _, c := range []struct{ z, plain complex128 }{
		{complex(nought, nought), 0},
		{complex(0, nought), 0},
		{complex(nought, 0), 0},
		{complex(nought, 5), 5i},
		{complex(nought, -5), -5i},
		{complex(7, nought), 7},
		{complex(-7, nought), -7},
		{-7, -7},
		{-3i, -3i},
	} {
		for q := -8; q <= 8; q++ {
			z, e := floor.Turn(c.z, q)
			want, _ := floor.Turn(c.plain, q)
			if z != want || e != api.OK {
				t.Errorf("Turn(%v, %d) = %v, %v, want %v", c.z, q, z, e, want)
			}
			for _, part := range []float64{real(z), imag(z)} {
				if part == 0 && math.Signbit(part) {
					t.Errorf("Turn(%v, %d) = %v tells a nought's sign", c.z, q, z)
				}
			}
		}
	}
}

func TestApart(t *testing.T) {
	all := someSpots()
	for _, a := range all {
		for _, b := range all {
			if n, e := floor.Apart(a.cell(), b.cell()); n != a.to(b) || e != api.OK {
				t.Errorf("Apart(%v, %v) = %d, %v, want %d", a, b, n, e, a.to(b))
			}
		}
	}
}

func TestApartOfTheFarthest(t *testing.T) {
	for _, c := range []struct {
		a, b complex128
		want int
	}{
		{complex(1<<20, 1<<20), complex(-1<<20, -1<<20), 1 << 22},
		{complex(-1<<20, 1<<20), complex(1<<20, -1<<20), 1 << 22},
		{1 << 20, -1 << 20, 1 << 21},
		{1 << 20, 1<<20 - 1, 1},
		{1 + 1i, -1, 3},
		{complex(0, math.Copysign(0, -1)), complex(math.Copysign(0, -1), 0), 0},
	} {
		if n, e := floor.Apart(c.a, c.b); n != c.want || e != api.OK {
			t.Errorf("Apart(%v, %v) = %d, %v, want %d", c.a, c.b, n, e, c.want)
		}
	}
}

func TestApartOfNoCell(t *testing.T) {
	for _, wrong := range noCells() {
		for _, right := range []complex128{0, 1i, 1 << 20, complex(-1<<20, 1<<20), wrong} {
			if n, e := floor.Apart(wrong, right); n != 0 || e != api.ErrArg {
				t.Errorf("Apart(%v, %v) = %d, %v, want %v", wrong, right, n, e, api.ErrArg)
			}
			if n, e := floor.Apart(right, wrong); n != 0 || e != api.ErrArg {
				t.Errorf("Apart(%v, %v) = %d, %v, want %v", right, wrong, n, e, api.ErrArg)
			}
		}
	}
}
