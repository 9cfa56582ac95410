package poly_test

import (
	"bytes"
	"testing"

	"recoup/api"
	"recoup/poly"
)

// P2.1
func TestTrim(t *testing.T) {
	for _, c := range []struct{ p, want []byte }{
		{[]byte{1, 0, 2, 0}, []byte{1, 0, 2}},
		{[]byte{1, 0, 2}, []byte{1, 0, 2}},
		{[]byte{0, 0, 7}, []byte{0, 0, 7}},
		{[]byte{0, 1, 0, 0, 0}, []byte{0, 1}},
		{[]byte{255}, []byte{255}},
	} {
		if got := poly.Trim(c.p); !bytes.Equal(got, c.want) {
			t.Errorf("Trim(%d) = %d", c.p, got)
		}
	}
	for _, p := range zeros() {
		if got := poly.Trim(p); len(got) != 0 {
			t.Errorf("Trim(%d) = %d", p, got)
		}
	}
}

func TestTrimOfLongLists(t *testing.T) {
	for _, length := range []int{1, 64, api.MaxPoly, api.MaxPoly + 1, 100000} {
		for _, noughts := range []int{0, 1, 1000} {
			p := list(length, length)
			if got := poly.Trim(withNoughts(p, noughts)); !bytes.Equal(got, p) {
				t.Errorf("Trim of %d and %d noughts has %d", length, noughts, len(got))
			}
		}
	}
}

func TestDegree(t *testing.T) {
	for _, c := range []struct {
		p    []byte
		want int
	}{{[]byte{5}, 0}, {[]byte{5, 0}, 0}, {[]byte{0, 1}, 1}, {[]byte{0, 1, 0, 0}, 1}, {[]byte{1, 0, 0, 9, 0}, 3}} {
		if got := poly.Degree(c.p); got != c.want {
			t.Errorf("Degree(%d) = %d", c.p, got)
		}
	}
	for _, p := range zeros() {
		if got := poly.Degree(p); got != -1 {
			t.Errorf("Degree(%d) = %d", p, got)
		}
	}
	for _, degree := range []int{api.MaxPoly - 1, api.MaxPoly, 100000} {
		if got := poly.Degree(withNoughts(power(3, degree), 70)); got != degree {
			t.Errorf("Degree = %d, want %d", got, degree)
		}
	}
}

func TestEval(t *testing.T) {
	for _, length := range []int{1, 2, 3, 17, 255, 256, 257, 300, api.MaxPoly, api.MaxPoly + 1, 2000} {
		p := list(length, length)
		for x := range 256 {
			want := slowEval(p, byte(x))
			if got := poly.Eval(p, byte(x)); got != want {
				t.Fatalf("Eval of %d at %d = %d, want %d", length, x, got, want)
			}
			if got := poly.Eval(withNoughts(p, 9), byte(x)); got != want {
				t.Fatalf("Eval of %d and noughts at %d = %d, want %d", length, x, got, want)
			}
		}
	}
}

func TestEvalAtEdges(t *testing.T) {
	for _, c := range []struct {
		p    []byte
		x    byte
		want byte
	}{
		{[]byte{3, 0, 1}, 2, 7},
		{[]byte{9}, 0, 9},
		{[]byte{9, 8, 7}, 0, 9},
		{[]byte{9, 8, 7}, 1, 6},
		{[]byte{0, 1}, 200, 200},
		{power(1, 255), 77, 1},
		{power(1, 256), 77, 77},
		{power(6, 100000), 1, 6},
		{power(6, 100000), 0, 0},
	} {
		if got := poly.Eval(c.p, c.x); got != c.want {
			t.Errorf("Eval(%d, %d) = %d", c.p, c.x, got)
		}
	}
	for _, p := range zeros() {
		for x := range 256 {
			if got := poly.Eval(p, byte(x)); got != 0 {
				t.Errorf("Eval(%d, %d) = %d", p, x, got)
			}
		}
	}
}
