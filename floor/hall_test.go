package floor_test

import (
	"math"
	"strconv"
	"strings"
	"testing"

	"recoup/api"
)

// hall is how the 64 domains stand: the real parts go from -3 on the left to 4
// on the right, the imaginary ones from 4 above down to -3.
const hall = `
63 62 61 60 59 58 57 56
36 35 34 33 32 31 30 55
37 16 15 14 13 12 29 54
38 17  4  3  2 11 28 53
39 18  5  0  1 10 27 52
40 19  6  7  8  9 26 51
41 20 21 22 23 24 25 50
42 43 44 45 46 47 48 49
`

// spot is a cell as two ints.
type spot struct{ x, y int }

// cell is the complex number of a spot.
func (s spot) cell() complex128 {
	return complex(float64(s.x), float64(s.y))
}

// left is the spot turned left once.
func (s spot) left() spot {
	return spot{-s.y, s.x}
}

// to is how far another spot is.
func (s spot) to(other spot) int {
	return max(s.x-other.x, other.x-s.x) + max(s.y-other.y, other.y-s.y)
}

// spots are where the domains stand, as the picture of the hall has them.
func spots(t *testing.T) []spot {
	t.Helper()
	made := make([]spot, 64)
	words := strings.Fields(hall)
	seen := map[int]bool{}
	for i, word := range words {
		d, err := strconv.Atoi(word)
		if err != nil || d < 0 || d > 63 || seen[d] {
			t.Fatalf("the picture of the hall is wrong at %s", word)
		}
		seen[d] = true
		made[d] = spot{i%8 - 3, 4 - i/8}
	}
	if len(seen) != 64 {
		t.Fatalf("the picture of the hall has %d domains", len(seen))
	}
	return made
}

// set is the set of some numbers.
func set(l ...int) api.Set {
	var s api.Set
	for _, i := range l {
		s |= 1 << i
	}
	return s
}

// noPart are numbers that are not a part of any cell.
func noPart() []float64 {
	return []float64{
		0.5, -0.5, 1.5, -2.25, 1e-300, math.SmallestNonzeroFloat64, -math.SmallestNonzeroFloat64,
		1<<20 + 1, -1<<20 - 1, 1 << 21, -1 << 21, 1 << 31, 1 << 32, 1 << 62, 1 << 63, 1 << 64, -1 << 63,
		math.Nextafter(1<<20, math.Inf(1)), math.Nextafter(1<<20, 0),
		math.Nextafter(-1<<20, math.Inf(-1)), math.Nextafter(-1<<20, 0),
		1<<20 + 0.5, 1<<20 - 0.5, -1<<20 - 0.5, -1<<20 + 0.5,
		math.Nextafter(1, 2), math.Nextafter(1, 0), math.MaxFloat64, -math.MaxFloat64,
		math.Inf(1), math.Inf(-1), math.NaN(), math.Float64frombits(0xfff0000000000001),
	}
}

// noCells are complex numbers that are not cells, each with one wrong part or
// with two.
func noCells() []complex128 {
	var made []complex128
	for _, x := range noPart() {
		for _, y := range []float64{0, math.Copysign(0, -1), 1, -7, 1 << 20, -1 << 20} {
			made = append(made, complex(x, y), complex(y, x))
		}
		for _, y := range noPart() {
			made = append(made, complex(x, y))
		}
	}
	return made
}

// someSpots are spots in each quarter of the hall, at its edges and between.
func someSpots() []spot {
	var made []spot
	parts := []int{0, 1, -1, 2, -3, 5, -64, 1000, 65537, -99999, 1<<20 - 1, -1<<20 + 1, 1 << 20, -1 << 20}
	for _, x := range parts {
		for _, y := range parts {
			made = append(made, spot{x, y})
		}
	}
	return made
}

// source is a row of numbers that looks like chance and is the same each time.
type source struct{ state uint64 }

func (s *source) below(n int) int {
	s.state = s.state*6364136223846793005 + 1442695040888963407
	return int(s.state >> 33 % uint64(n))
}

// someInts are ints of all sizes.
func someInts() []int {
	return []int{
		0, 1, 2, 3, 5, 31, 32, 62, 63, 64, 65, 66, 100, 128, 255, 256, 1 << 16, 1 << 20, 1<<20 + 1,
		math.MaxInt32 - 1, math.MaxInt32, math.MaxInt32 + 1, math.MaxUint32, 1 << 40, math.MaxInt - 1, math.MaxInt,
		-1, -2, -63, -64, -65, -1 << 20, math.MinInt32, math.MinInt32 - 1, -1 << 40, math.MinInt + 1, math.MinInt,
	}
}
