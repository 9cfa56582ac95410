package floor_test

import (
	"math"
	"testing"

	"recoup/api"
	"recoup/floor"
)

// P15.3

func TestAisle(t *testing.T) {
	all := spots(t)
	for n := 1; n <= 64; n++ {
		for d := range n {
			var want api.Set
			for other, s := range all[:n] {
				if s.x == all[d].x {
					want |= set(other)
				}
			}
			if s, e := floor.Aisle(n, d); s != want || e != api.OK {
				t.Errorf("Aisle(%d, %d) = %#x, %v, want %#x", n, d, s, e, want)
			}
		}
	}
}

func TestSomeAisles(t *testing.T) {
	for _, c := range []struct {
		n, d int
		want api.Set
	}{
		{9, 1, set(1, 2, 8)},
		{9, 0, set(0, 3, 7)},
		{1, 0, set(0)},
		{2, 1, set(1)},
		{64, 63, set(36, 37, 38, 39, 40, 41, 42, 63)},
		{63, 42, set(36, 37, 38, 39, 40, 41, 42)},
		{64, 50, set(49, 50, 51, 52, 53, 54, 55, 56)},
	} {
		if s, e := floor.Aisle(c.n, c.d); s != c.want || e != api.OK {
			t.Errorf("Aisle(%d, %d) = %#x, %v, want %#x", c.n, c.d, s, e, c.want)
		}
	}
}

// reaches are ints that are enough to tell all distances of the hall apart.
func reaches() []int {
	made := []int{100, math.MaxInt32, math.MaxInt - 1, math.MaxInt}
	for r := range 18 {
		made = append(made, r)
	}
	return made
}

func TestNear(t *testing.T) {
	all := spots(t)
	for n := 1; n <= 64; n++ {
		for d := range n {
			for _, r := range reaches() {
				var want api.Set
				for other, s := range all[:n] {
					if s.to(all[d]) <= r {
						want |= set(other)
					}
				}
				if s, e := floor.Near(n, d, r); s != want || e != api.OK {
					t.Errorf("Near(%d, %d, %d) = %#x, %v, want %#x", n, d, r, s, e, want)
				}
			}
		}
	}
}

func TestSomeNear(t *testing.T) {
	for _, c := range []struct {
		n, d, r int
		want    api.Set
	}{
		{9, 0, 1, set(0, 1, 3, 5, 7)},
		{4, 3, 0, set(3)},
		{64, 63, 0, set(63)},
		{64, 63, 1, set(36, 62, 63)},
		{64, 0, math.MaxInt, math.MaxUint64},
		{64, 63, 14, math.MaxUint64},
		{64, 63, 13, math.MaxUint64 &^ set(49)},
		{1, 0, math.MaxInt, set(0)},
	} {
		if s, e := floor.Near(c.n, c.d, c.r); s != c.want || e != api.OK {
			t.Errorf("Near(%d, %d, %d) = %#x, %v, want %#x", c.n, c.d, c.r, s, e, c.want)
		}
	}
}

func TestNoSuchDomain(t *testing.T) {
	for _, n := range someInts() {
		for _, d := range append(someInts(), n-1, n, -n) {
			if n >= 1 && n <= 64 && d >= 0 && d < n {
				continue
			}
			if s, e := floor.Aisle(n, d); s != 0 || e != api.ErrArg {
				t.Errorf("Aisle(%d, %d) = %#x, %v, want %v", n, d, s, e, api.ErrArg)
			}
			for _, r := range someInts() {
				if s, e := floor.Near(n, d, r); s != 0 || e != api.ErrArg {
					t.Errorf("Near(%d, %d, %d) = %#x, %v, want %v", n, d, r, s, e, api.ErrArg)
				}
			}
		}
	}
}

func TestNearOfNoReach(t *testing.T) {
	for _, r := range someInts() {
		if r >= 0 {
			continue
		}
		for n := 1; n <= 64; n++ {
			if s, e := floor.Near(n, n-1, r); s != 0 || e != api.ErrArg {
				t.Errorf("Near(%d, %d, %d) = %#x, %v, want %v", n, n-1, r, s, e, api.ErrArg)
			}
		}
	}
}
