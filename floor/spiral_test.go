package floor_test

import (
	"math"
	"slices"
	"testing"

	"recoup/api"
	"recoup/floor"
)

// P15.1

func TestSpiral(t *testing.T) {
	var want []complex128
	for _, s := range spots(t) {
		want = append(want, s.cell())
	}
	for n := range 65 {
		cells, e := floor.Spiral(n)
		if !slices.Equal(cells, want[:n]) || e != api.OK {
			t.Errorf("Spiral(%d) = %v, %v, want %v", n, cells, e, want[:n])
		}
	}
}

func TestSpiralOfNoSuchLength(t *testing.T) {
	for _, n := range someInts() {
		if n >= 0 && n <= 64 {
			continue
		}
		if cells, e := floor.Spiral(n); len(cells) != 0 || e != api.ErrArg {
			t.Errorf("Spiral(%d) = %v, %v, want %v", n, cells, e, api.ErrArg)
		}
	}
}

// The picture of the hall tells of every cell in it, and of those around it,
// which domain stands there.
func TestAt(t *testing.T) {
	stands := map[spot]int{}
	for d, s := range spots(t) {
		stands[s] = d
	}
	for x := -12; x <= 12; x++ {
		for y := -12; y <= 12; y++ {
			want, there := stands[spot{x, y}]
			if d, ok := floor.At(spot{x, y}.cell()); d != want || ok != there {
				t.Errorf("At(%d, %d) = %d, %v, want %d, %v", x, y, d, ok, want, there)
			}
		}
	}
}

func TestAtBesideTheCells(t *testing.T) {
	for d, s := range spots(t) {
		for _, off := range []complex128{0.5, 0.5i, -0.25, 0.125i, 1e-9, -1e-9i, complex(0.5, 0.5), 1 << 20, -1 << 20, 1 << 32, (1 << 32) * 1i, 256, 64i} {
			z := s.cell() + off
			if got, ok := floor.At(z); got != 0 || ok {
				t.Errorf("At(%v), beside domain %d, = %d, %v", z, d, got, ok)
			}
		}
	}
	for _, z := range noCells() {
		if d, ok := floor.At(z); d != 0 || ok {
			t.Errorf("At(%v) = %d, %v", z, d, ok)
		}
	}
	for _, s := range someSpots() {
		if _, ok := floor.At(s.cell()); ok && (max(s.x, -s.x) > 4 || max(s.y, -s.y) > 4) {
			t.Errorf("a domain stands on %v", s)
		}
	}
}

// -0 and 0 are one part.
func TestAtNoughtsOfBothSigns(t *testing.T) {
	nought := math.Copysign(0, -1)
	for d, s := range spots(t) {
		parts := [2][]float64{{float64(s.x)}, {float64(s.y)}}
		for i := range parts {
			if parts[i][0] == 0 {
				parts[i] = []float64{0, nought}
			}
		}
		for _, x := range parts[0] {
			for _, y := range parts[1] {
				if got, ok := floor.At(complex(x, y)); got != d || !ok {
					t.Errorf("At(%v) = %d, %v, want %d", complex(x, y), got, ok, d)
				}
			}
		}
	}
}
