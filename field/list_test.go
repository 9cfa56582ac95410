package field_test

import (
	"bytes"
	"testing"

	"recoup/api"
	"recoup/field"
)

// behind fills the room behind the end of a list that is handed in.
const behind = 0xa5

// lengths are those of the tests' lists: none at all, about a half's 16
// values, a matrix's greatest row, about all 256 elements, and beyond.
func lengths() []int {
	return []int{0, 1, 2, 3, 15, 16, 17, 64, 255, 256, 257, 1000}
}

// list makes length elements by a simple rule that differs from seed to seed,
// with room behind its end.
func list(length, seed int) []byte {
	room := bytes.Repeat([]byte{behind}, length+8)
	for i := range length {
		room[i] = byte(i*(2*seed+1) + 31*seed)
	}
	return room[:length]
}

// held is a list as it was handed in, to be looked at again later.
type held struct {
	handed, before []byte
}

func hold(handed []byte) held {
	return held{handed, bytes.Clone(handed[:cap(handed)])}
}

func (h held) same() bool {
	return bytes.Equal(h.handed[:cap(h.handed)], h.before)
}

func slowSum(a, b []byte) []byte {
	var sums []byte
	for i := range a {
		sums = append(sums, a[i]^b[i])
	}
	return sums
}

func slowScale(c byte, a []byte) []byte {
	var multiples []byte
	for i := range a {
		multiples = append(multiples, slowProduct(c, a[i]))
	}
	return multiples
}

func slowDot(a, b []byte) byte {
	var sum byte
	for i := range a {
		sum ^= slowProduct(a[i], b[i])
	}
	return sum
}

// P1.4
func TestSumOfLists(t *testing.T) {
	for _, length := range lengths() {
		a, b := list(length, 1), list(length, 2)
		got, e := field.Sum(a, b)
		if e != api.OK || !bytes.Equal(got, slowSum(a, b)) {
			t.Errorf("Sum of %d = %d, %v", length, got, e)
		}
	}
}

func TestScale(t *testing.T) {
	for c := range 256 {
		for _, length := range lengths() {
			a := list(length, 3)
			if got := field.Scale(byte(c), a); !bytes.Equal(got, slowScale(byte(c), a)) {
				t.Errorf("Scale(%d) of %d = %d", c, length, got)
			}
		}
	}
}

func TestMac(t *testing.T) {
	for c := range 256 {
		for _, length := range lengths() {
			dst, src := list(length, 4), list(length, 5)
			got, e := field.Mac(dst, byte(c), src)
			if e != api.OK || !bytes.Equal(got, slowSum(dst, slowScale(byte(c), src))) {
				t.Errorf("Mac by %d of %d = %d, %v", c, length, got, e)
			}
		}
	}
}

func TestDot(t *testing.T) {
	for _, length := range lengths() {
		a, b := list(length, 6), list(length, 7)
		if got, e := field.Dot(a, b); e != api.OK || got != slowDot(a, b) {
			t.Errorf("Dot of %d = %d, %v", length, got, e)
		}
	}
}

func TestListsOfExamples(t *testing.T) {
	if got, e := field.Sum([]byte{1, 2}, []byte{3, 4}); e != api.OK || !bytes.Equal(got, []byte{2, 6}) {
		t.Errorf("Sum(1 2, 3 4) = %d, %v", got, e)
	}
	if got := field.Scale(2, []byte{1, 128}); !bytes.Equal(got, []byte{2, 29}) {
		t.Errorf("Scale(2, 1 128) = %d", got)
	}
	if got, e := field.Mac([]byte{1, 1}, 2, []byte{1, 128}); e != api.OK || !bytes.Equal(got, []byte{3, 28}) {
		t.Errorf("Mac(1 1, 2, 1 128) = %d, %v", got, e)
	}
	if got, e := field.Dot([]byte{1, 2}, []byte{3, 4}); e != api.OK || got != 11 {
		t.Errorf("Dot(1 2, 3 4) = %d, %v", got, e)
	}
}

func TestEmptyLists(t *testing.T) {
	none, empty := []byte(nil), list(0, 0)
	for _, pair := range [][2][]byte{{none, none}, {none, empty}, {empty, none}, {empty, empty}} {
		if got, e := field.Sum(pair[0], pair[1]); len(got) != 0 || e != api.OK {
			t.Errorf("Sum of none = %d, %v", got, e)
		}
		if got, e := field.Mac(pair[0], 7, pair[1]); len(got) != 0 || e != api.OK {
			t.Errorf("Mac of none = %d, %v", got, e)
		}
		if got, e := field.Dot(pair[0], pair[1]); got != 0 || e != api.OK {
			t.Errorf("Dot of none = %d, %v", got, e)
		}
		if got := field.Scale(7, pair[0]); len(got) != 0 {
			t.Errorf("Scale of none = %d", got)
		}
	}
}

func TestListsOfTwoLengths(t *testing.T) {
	for _, long := range lengths() {
		for _, short := range lengths() {
			if long == short {
				continue
			}
			a, b := list(long, 1), list(short, 2)
			if got, e := field.Sum(a, b); len(got) != 0 || e != api.ErrShape {
				t.Errorf("Sum of %d and %d = %d, %v", long, short, got, e)
			}
			if got, e := field.Mac(a, 3, b); len(got) != 0 || e != api.ErrShape {
				t.Errorf("Mac of %d and %d = %d, %v", long, short, got, e)
			}
			if got, e := field.Mac(a, 0, b); len(got) != 0 || e != api.ErrShape {
				t.Errorf("Mac by 0 of %d and %d = %d, %v", long, short, got, e)
			}
			if got, e := field.Dot(a, b); got != 0 || e != api.ErrShape {
				t.Errorf("Dot of %d and %d = %d, %v", long, short, got, e)
			}
		}
	}
	if got, e := field.Sum([]byte{1}, nil); len(got) != 0 || e != api.ErrShape {
		t.Errorf("Sum(1, none) = %d, %v", got, e)
	}
}

// answers are all calls that answer a list, each over two lists.
func answers() map[string]func(a, b []byte) []byte {
	return map[string]func(a, b []byte) []byte{
		"Sum":        func(a, b []byte) []byte { x, _ := field.Sum(a, b); return x },
		"Scale by 0": func(a, _ []byte) []byte { return field.Scale(0, a) },
		"Scale by 1": func(a, _ []byte) []byte { return field.Scale(1, a) },
		"Scale by 9": func(a, _ []byte) []byte { return field.Scale(9, a) },
		"Mac by 0":   func(a, b []byte) []byte { x, _ := field.Mac(a, 0, b); return x },
		"Mac by 1":   func(a, b []byte) []byte { x, _ := field.Mac(a, 1, b); return x },
		"Mac by 9":   func(a, b []byte) []byte { x, _ := field.Mac(a, 9, b); return x },
		"Dot":        func(a, b []byte) []byte { field.Dot(a, b); return nil },
	}
}

// Rule 5: what is handed in stays as it is, also where a call fails.
func TestWhatIsHandedInStays(t *testing.T) {
	for name, call := range answers() {
		for _, long := range lengths() {
			for _, short := range []int{long, 3} {
				a, b := list(long, 1), list(short, 2)
				first, second := hold(a), hold(b)
				call(a, b)
				if !first.same() || !second.same() {
					t.Errorf("%s of %d and %d changed what it was handed", name, long, short)
				}
			}
		}
	}
}

// Rule 5: one list may be handed in twice.
func TestOneListHandedInTwice(t *testing.T) {
	a := list(64, 1)
	before := hold(a)
	if got, e := field.Sum(a, a); e != api.OK || !bytes.Equal(got, make([]byte, 64)) {
		t.Errorf("Sum of a list and itself = %d, %v", got, e)
	}
	if got, e := field.Mac(a, 5, a); e != api.OK || !bytes.Equal(got, slowScale(4, a)) {
		t.Errorf("Mac of a list and itself = %d, %v", got, e)
	}
	if got, e := field.Dot(a, a); e != api.OK || got != slowDot(a, a) {
		t.Errorf("Dot of a list and itself = %d, %v", got, e)
	}
	if !before.same() {
		t.Error("the list was changed")
	}
}

// Rule 5: what is answered is new memory, with its room behind the end.
func TestAnswersAreNewMemory(t *testing.T) {
	for name, call := range answers() {
		for _, length := range lengths() {
			a, b := list(length, 1), list(length, 2)
			first, second := hold(a), hold(b)
			answer, another := call(a, b), call(a, b)
			third := hold(another)
			spoil(answer)
			if !first.same() || !second.same() {
				t.Errorf("%s of %d shares memory with what it was handed", name, length)
			}
			if !third.same() {
				t.Errorf("%s of %d shares memory with another answer", name, length)
			}
			spoil(a)
			spoil(b)
			if !third.same() {
				t.Errorf("%s of %d hangs on what becomes of its arguments", name, length)
			}
		}
	}
}

// spoil turns all bits of a list, and of the room behind its end.
func spoil(a []byte) {
	room := a[:cap(a)]
	for i := range room {
		room[i] ^= 0xff
	}
}

// P1.5
func TestDotGoesThroughSumsAndMultiples(t *testing.T) {
	for _, length := range lengths() {
		a, b, c := list(length, 1), list(length, 2), list(length, 3)
		one, _ := field.Dot(a, c)
		if turned, _ := field.Dot(c, a); turned != one {
			t.Errorf("Dot of %d hangs on the order", length)
		}
		two, _ := field.Dot(b, c)
		sum, _ := field.Sum(a, b)
		if got, _ := field.Dot(sum, c); got != field.Add(one, two) {
			t.Errorf("Dot of a sum of %d = %d, want %d", length, got, field.Add(one, two))
		}
		for by := range 256 {
			factor := byte(by)
			if got, _ := field.Dot(field.Scale(factor, a), c); got != field.Mul(factor, one) {
				t.Errorf("Dot of %d times a list of %d = %d", by, length, got)
			}
		}
	}
}
