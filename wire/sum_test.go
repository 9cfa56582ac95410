package wire_test

import (
	"testing"

	"recoup/api"
	"recoup/wire"
)

// bitwise is the sum by its rule, a bit at a time, without a table.
func bitwise(b []byte) uint32 {
	var register uint32 = 1<<32 - 1
	for _, x := range b {
		register ^= uint32(x)
		for range 8 {
			if register%2 == 1 {
				register = register/2 ^ 0xedb88320
			} else {
				register /= 2
			}
		}
	}
	return register ^ (1<<32 - 1)
}

func sumIs(t *testing.T, b []byte, want uint32) {
	t.Helper()
	if got := wire.Sum(b); got != want {
		t.Errorf("Sum(%s) = %08x, want %08x", short(b), got, want)
	}
}

// P8.1
func TestSumOfExamples(t *testing.T) {
	sumIs(t, []byte("123456789"), 0xcbf43926)
	sumIs(t, []byte{0}, 0xd202ef8d)
	sumIs(t, nil, 0)
	sumIs(t, []byte{}, 0)
	sumIs(t, []byte("a"), 0xe8b7be43)
	sumIs(t, []byte{0xff}, 0xff000000)
	sumIs(t, repeated(0xff, 4), 0xffffffff)
	sumIs(t, repeated(0, 4), 0x2144df1c)
}

func TestSumOfEachByteAndPair(t *testing.T) {
	for one := range 256 {
		sumIs(t, []byte{byte(one)}, bitwise([]byte{byte(one)}))
		for other := range 256 {
			pair := []byte{byte(one), byte(other)}
			sumIs(t, pair, slowSum(pair))
		}
	}
}

func TestSumOfTexts(t *testing.T) {
	for _, b := range texts() {
		sumIs(t, b, bitwise(b))
		sumIs(t, b, slowSum(b))
	}
	for length := range 300 {
		b := seeded(length).bytes(length)
		sumIs(t, b, bitwise(b))
	}
	for _, length := range []int{api.MaxChunk, api.MaxChunk + 7} {
		b := seeded(length).bytes(length)
		sumIs(t, b, slowSum(b))
		sumIs(t, b[:length/2], slowSum(b[:length/2]))
	}
}
