package wire_test

import (
	"encoding/binary"
	"math"
	"testing"

	"recoup/api"
)

// P8.2
func TestNumbersOfExamples(t *testing.T) {
	numIs(t, 0, []byte{0}, api.OK)
	numIs(t, 127, []byte{0x7f}, api.OK)
	numIs(t, 128, []byte{0x80, 1}, api.OK)
	numIs(t, 300, []byte{0xac, 2}, api.OK)
	numIs(t, 16383, []byte{0xff, 0x7f}, api.OK)
	numIs(t, 16384, []byte{0x80, 0x80, 1}, api.OK)
	numIs(t, 1<<56-1, append(repeated(0xff, 7), 0x7f), api.OK)
	numIs(t, 1<<56, append(repeated(0x80, 8), 1), api.OK)
	numIs(t, math.MaxInt, append(repeated(0xff, 8), 0x7f), api.OK)
	numIs(t, -1, nil, api.ErrArg)
	readNumIs(t, []byte{0xac, 2, 7}, 300, 2, api.OK)
	readNumIs(t, []byte{0x80}, 0, 0, api.ErrShort)
	readNumIs(t, []byte{0x80, 0}, 0, 0, api.ErrForm)
	readNumIs(t, nil, 0, 0, api.ErrShort)
	readNumIs(t, []byte{}, 0, 0, api.ErrShort)
	readNumIs(t, repeated(0xff, 9), 0, 0, api.ErrForm)
}

func TestNumbers(t *testing.T) {
	for _, n := range numbers() {
		form := slowNum(n)
		numIs(t, n, form, api.OK)
		numIs(t, n, binary.AppendUvarint(nil, uint64(n)), api.OK)
		for _, behind := range [][]byte{nil, {0}, {0xff}, {0x80, 1}, repeated(0x80, 12)} {
			readNumIs(t, joined(form, behind), n, len(form), api.OK)
		}
		for end := range form {
			readNumIs(t, form[:end:end], 0, 0, api.ErrShort)
		}
	}
	for n := range 70000 {
		numIs(t, n, slowNum(n), api.OK)
		readNumIs(t, slowNum(n), n, len(slowNum(n)), api.OK)
	}
}

func TestNumbersBelowNoughtHaveNoForm(t *testing.T) {
	for _, n := range numbers() {
		if n > 0 {
			numIs(t, -n, nil, api.ErrArg)
		}
	}
	numIs(t, math.MinInt, nil, api.ErrArg)
	numIs(t, math.MinInt+1, nil, api.ErrArg)
	numIs(t, math.MinInt32, nil, api.ErrArg)
}

func TestReadNumOfAllThatIsShort(t *testing.T) {
	for one := range 256 {
		readNumAsSlow(t, []byte{byte(one)})
		for other := range 256 {
			readNumAsSlow(t, []byte{byte(one), byte(other)})
			if one%64 > 61 || one%64 < 2 {
				for _, third := range []byte{0, 1, 0x7f, 0x80, 0x81, 0xff} {
					readNumAsSlow(t, []byte{byte(one), byte(other), third})
				}
			}
		}
	}
}

// Up to twelve bytes of which most go on, and each length that a number may
// and may not have.
func TestReadNumOfLongOnes(t *testing.T) {
	for seed := range 4000 {
		from := seeded(seed)
		b := from.bytes(from.below(13))
		for i := range b {
			if from.below(8) > 0 {
				b[i] |= 0x80
			}
			if from.below(20) == 0 {
				b[i] &= 0x80
			}
		}
		readNumAsSlow(t, b)
	}
}

func readNumAsSlow(t *testing.T, b []byte) {
	t.Helper()
	n, size, e := slowReadNum(b)
	readNumIs(t, b, n, size, e)
}

// A byte of 0 behind others, at each place, whatever stands behind it.
func TestNoughtBehindOthersIsNoForm(t *testing.T) {
	for count := 1; count < 12; count++ {
		for _, ahead := range []byte{0x80, 0x81, 0xff} {
			for _, behind := range [][]byte{nil, {0}, {1}, {0xff}} {
				readNumIs(t, joined(repeated(ahead, count), []byte{0}, behind), 0, 0, api.ErrForm)
			}
		}
	}
	readNumIs(t, []byte{0, 0}, 0, 1, api.OK)
}

// The ninth byte ends each number, and a tenth one is not waited for.
func TestNinthByte(t *testing.T) {
	for _, ahead := range []byte{0x80, 0x81, 0xff} {
		readNumIs(t, repeated(ahead, 8), 0, 0, api.ErrShort)
		for ninth := range 256 {
			b := append(repeated(ahead, 8), byte(ninth))
			low := 0
			for i := range 8 {
				low += int(ahead-0x80) << (7 * i)
			}
			switch {
			case ninth == 0 || ninth >= 0x80:
				readNumIs(t, b, 0, 0, api.ErrForm)
				readNumIs(t, append(b, 1), 0, 0, api.ErrForm)
			default:
				readNumIs(t, b, low+ninth<<56, 9, api.OK)
				readNumIs(t, append(b, 0), low+ninth<<56, 9, api.OK)
			}
		}
	}
}
