package field_test

import (
	"math"
	"testing"

	"recoup/api"
	"recoup/field"
)

// slowProduct multiplies the polynomials as numbers of 16 bits and takes the
// remainder by 0x11d from the top down: another way than the package's own.
func slowProduct(a, b byte) byte {
	wide := 0
	for i := range 8 {
		if b>>i&1 == 1 {
			wide ^= int(a) << i
		}
	}
	for bit := 15; bit >= 8; bit-- {
		if wide>>bit&1 == 1 {
			wide ^= 0x11d << (bit - 8)
		}
	}
	return byte(wide)
}

// slowInverse looks for the inverse among all elements.
func slowInverse(a byte) byte {
	for b := range 256 {
		if slowProduct(a, byte(b)) == 1 {
			return byte(b)
		}
	}
	return 0
}

// slowPower squares and multiplies by the bits of the exponent itself.
func slowPower(a byte, n int) byte {
	exponent := uint64(n)
	if n < 0 {
		a = slowInverse(a)
		exponent = -exponent
	}
	power := byte(1)
	for ; exponent != 0; exponent >>= 1 {
		if exponent&1 == 1 {
			power = slowProduct(power, a)
		}
		a = slowProduct(a, a)
	}
	return power
}

// products tells all products, each at [a][b].
func products() *[256][256]byte {
	var all [256][256]byte
	for a := range all {
		for b := range all[a] {
			all[a][b] = field.Mul(byte(a), byte(b))
		}
	}
	return &all
}

// P1.1
func TestSumsAndProducts(t *testing.T) {
	for a := range 256 {
		for b := range 256 {
			x, y := byte(a), byte(b)
			if got := field.Add(x, y); got != x^y {
				t.Fatalf("Add(%d, %d) = %d", a, b, got)
			}
			if got, want := field.Mul(x, y), slowProduct(x, y); got != want {
				t.Fatalf("Mul(%d, %d) = %d, want %d", a, b, got, want)
			}
		}
	}
}

func TestSumsAndProductsOfExamples(t *testing.T) {
	if got := field.Add(5, 3); got != 6 {
		t.Errorf("Add(5, 3) = %d", got)
	}
	for _, c := range [][3]byte{{2, 128, 29}, {3, 7, 9}, {255, 255, 226}, {0, 9, 0}, {9, 0, 0}, {0, 0, 0}, {1, 255, 255}} {
		if got := field.Mul(c[0], c[1]); got != c[2] {
			t.Errorf("Mul(%d, %d) = %d, want %d", c[0], c[1], got, c[2])
		}
	}
}

// P1.2
func TestInverses(t *testing.T) {
	for a := 1; a < 256; a++ {
		got, e := field.Inv(byte(a))
		if e != api.OK || slowProduct(got, byte(a)) != 1 {
			t.Errorf("Inv(%d) = %d, %v", a, got, e)
		}
	}
	if got, e := field.Inv(0); got != 0 || e != api.ErrZero {
		t.Errorf("Inv(0) = %d, %v", got, e)
	}
	if got, e := field.Inv(2); got != 142 || e != api.OK {
		t.Errorf("Inv(2) = %d, %v", got, e)
	}
}

func TestQuotients(t *testing.T) {
	for b := 1; b < 256; b++ {
		inverse := slowInverse(byte(b))
		for a := range 256 {
			got, e := field.Div(byte(a), byte(b))
			if want := slowProduct(byte(a), inverse); got != want || e != api.OK {
				t.Fatalf("Div(%d, %d) = %d, %v, want %d", a, b, got, e, want)
			}
		}
	}
	for a := range 256 {
		if got, e := field.Div(byte(a), 0); got != 0 || e != api.ErrZero {
			t.Errorf("Div(%d, 0) = %d, %v", a, got, e)
		}
	}
}

func TestQuotientsOfExamples(t *testing.T) {
	for _, c := range []struct {
		a, b, want byte
		e          api.Errno
	}{{29, 2, 128, api.OK}, {0, 7, 0, api.OK}, {7, 0, 0, api.ErrZero}, {0, 0, 0, api.ErrZero}} {
		if got, e := field.Div(c.a, c.b); got != c.want || e != c.e {
			t.Errorf("Div(%d, %d) = %d, %v", c.a, c.b, got, e)
		}
	}
}

// exponents are the ordinary ones, those about where powers come round, and
// both ends of what an int holds.
func exponents() []int {
	list := []int{math.MinInt, math.MinInt + 1, math.MinInt + 2, math.MinInt32, math.MaxInt32, math.MaxInt - 1, math.MaxInt}
	for n := -520; n <= 520; n++ {
		list = append(list, n)
	}
	return list
}

// P1.3
func TestPowers(t *testing.T) {
	for a := 1; a < 256; a++ {
		for _, n := range exponents() {
			got, e := field.Pow(byte(a), n)
			if want := slowPower(byte(a), n); got != want || e != api.OK {
				t.Fatalf("Pow(%d, %d) = %d, %v, want %d", a, n, got, e, want)
			}
		}
	}
}

func TestPowersOfZero(t *testing.T) {
	for _, n := range exponents() {
		var want byte
		wantError := api.OK
		switch {
		case n < 0:
			wantError = api.ErrZero
		case n == 0:
			want = 1
		}
		if got, e := field.Pow(0, n); got != want || e != wantError {
			t.Errorf("Pow(0, %d) = %d, %v", n, got, e)
		}
	}
}

func TestPowersOfExamples(t *testing.T) {
	for _, c := range []struct {
		a    byte
		n    int
		want byte
		e    api.Errno
	}{{2, 8, 29, api.OK}, {2, -1, 142, api.OK}, {0, 0, 1, api.OK}, {0, 5, 0, api.OK}, {0, -1, 0, api.ErrZero}, {3, 255, 1, api.OK}} {
		if got, e := field.Pow(c.a, c.n); got != c.want || e != c.e {
			t.Errorf("Pow(%d, %d) = %d, %v", c.a, c.n, got, e)
		}
	}
}

func TestPowersOfTwo(t *testing.T) {
	for _, n := range exponents() {
		if got, want := field.Exp(n), slowPower(2, n); got != want {
			t.Errorf("Exp(%d) = %d, want %d", n, got, want)
		}
	}
	for _, c := range []struct {
		n    int
		want byte
	}{{0, 1}, {255, 1}, {-1, 142}, {8, 29}} {
		if got := field.Exp(c.n); got != c.want {
			t.Errorf("Exp(%d) = %d, want %d", c.n, got, c.want)
		}
	}
}

func TestLogs(t *testing.T) {
	for a := 1; a < 256; a++ {
		got, e := field.Log(byte(a))
		if e != api.OK || got < 0 || got > 254 || slowPower(2, got) != byte(a) {
			t.Errorf("Log(%d) = %d, %v", a, got, e)
		}
	}
	if got, e := field.Log(0); got != 0 || e != api.ErrZero {
		t.Errorf("Log(0) = %d, %v", got, e)
	}
	for _, c := range []struct {
		a    byte
		want int
	}{{1, 0}, {2, 1}, {29, 8}, {142, 254}} {
		if got, e := field.Log(c.a); got != c.want || e != api.OK {
			t.Errorf("Log(%d) = %d, %v", c.a, got, e)
		}
	}
}

// P1.5
func TestOrderIsOfNoMoment(t *testing.T) {
	times := products()
	for a := range 256 {
		for b := range 256 {
			x, y := byte(a), byte(b)
			if field.Add(x, y) != field.Add(y, x) || times[a][b] != times[b][a] {
				t.Fatalf("%d and %d hang on their order", a, b)
			}
			if (times[a][b] == 0) != (a == 0 || b == 0) {
				t.Fatalf("Mul(%d, %d) = %d", a, b, times[a][b])
			}
		}
	}
}

func TestPuttingTogetherIsOfNoMoment(t *testing.T) {
	times := products()
	for a := range 256 {
		for b := range 256 {
			for c := range 256 {
				x, y, z := byte(a), byte(b), byte(c)
				if field.Add(field.Add(x, y), z) != field.Add(x, field.Add(y, z)) {
					t.Fatalf("the sum of %d, %d, %d", a, b, c)
				}
				if times[times[x][y]][z] != times[x][times[y][z]] {
					t.Fatalf("the product of %d, %d, %d", a, b, c)
				}
				if times[x][field.Add(y, z)] != field.Add(times[x][y], times[x][z]) {
					t.Fatalf("the product of %d and the sum of %d, %d", a, b, c)
				}
			}
		}
	}
}

func TestLogOfAProduct(t *testing.T) {
	var logs [256]int
	for a := 1; a < 256; a++ {
		logs[a], _ = field.Log(byte(a))
	}
	for a := 1; a < 256; a++ {
		for b := 1; b < 256; b++ {
			want := logs[a] + logs[b]
			if want >= 255 {
				want -= 255
			}
			if got := logs[field.Mul(byte(a), byte(b))]; got != want {
				t.Fatalf("Log of %d times %d = %d, want %d", a, b, got, want)
			}
		}
	}
}
