package wire_test

import (
	"math"
	"testing"

	"recoup/api"
)

// P8.3
func TestTextsOfExamples(t *testing.T) {
	textIs(t, []byte("ab"), []byte{2, 'a', 'b'}, api.OK)
	textIs(t, nil, []byte{0}, api.OK)
	textIs(t, []byte{}, []byte{0}, api.OK)
	readTextIs(t, []byte("\x02abc"), 2, []byte("ab"), 3, api.OK)
	readTextIs(t, []byte("\x02a"), 2, nil, 0, api.ErrShort)
	readTextIs(t, []byte("\x02ab"), 1, nil, 0, api.ErrLimit)
}

func TestTexts(t *testing.T) {
	for _, text := range texts() {
		form := slowText(text)
		textIs(t, text, form, api.OK)
		for _, behind := range [][]byte{nil, {0}, {0xff}, []byte("more")} {
			b := joined(form, behind)
			for _, most := range []int{len(text), len(text) + 1, api.MaxChunk, api.MaxChunk + 1, math.MaxInt} {
				readTextIs(t, b, most, text, len(form), api.OK)
			}
			for _, most := range []int{0, len(text) / 2, len(text) - 1} {
				if 0 <= most && most < len(text) {
					readTextIs(t, b, most, nil, 0, api.ErrLimit)
				}
			}
		}
	}
}

func TestTextOfAsManyBytesAsMayBe(t *testing.T) {
	text := seeded(3).bytes(api.MaxChunk + 2)
	most, above := text[:api.MaxChunk], text[:api.MaxChunk+1]
	textIs(t, most, slowText(most), api.OK)
	textIs(t, most[1:], slowText(most[1:]), api.OK)
	textIs(t, above, nil, api.ErrLimit)
	textIs(t, text, nil, api.ErrLimit)
	readTextIs(t, slowText(most), api.MaxChunk, most, api.MaxChunk+4, api.OK)
	readTextIs(t, slowText(most), api.MaxChunk-1, nil, 0, api.ErrLimit)
	// What is read is bounded by most alone.
	readTextIs(t, slowText(above), api.MaxChunk+1, above, api.MaxChunk+5, api.OK)
	readTextIs(t, slowText(above), api.MaxChunk, nil, 0, api.ErrLimit)
}

func TestReadTextWithNothingAllowed(t *testing.T) {
	readTextIs(t, []byte{0}, 0, nil, 1, api.OK)
	readTextIs(t, []byte{0, 0, 7}, 0, nil, 1, api.OK)
	readTextIs(t, []byte{1}, 0, nil, 0, api.ErrLimit)
	readTextIs(t, []byte{1, 2}, 0, nil, 0, api.ErrLimit)
	readTextIs(t, nil, 0, nil, 0, api.ErrShort)
	readTextIs(t, []byte{0x80}, 0, nil, 0, api.ErrShort)
	readTextIs(t, []byte{0x80, 0}, 0, nil, 0, api.ErrForm)
}

func TestReadTextWithLessThanNothingAllowed(t *testing.T) {
	for _, most := range []int{-1, -2, math.MinInt, math.MinInt + 1, math.MinInt32} {
		for _, b := range [][]byte{nil, {0}, {1}, {1, 2}, {0x80}, {0x80, 0}, repeated(0xff, 9)} {
			readTextIs(t, b, most, nil, 0, api.ErrArg)
		}
	}
}

// Bytes that end within the length, or within the text.
func TestReadTextThatEndsEarly(t *testing.T) {
	for _, text := range texts() {
		form := slowText(text)
		for end := 0; end < len(form); end += 1 + end/40 {
			readTextIs(t, form[:end:end], api.MaxChunk, nil, 0, api.ErrShort)
			readTextIs(t, form[:end:end], math.MaxInt, nil, 0, api.ErrShort)
		}
		last := len(form) - 1
		readTextIs(t, form[:last:last], len(text), nil, 0, api.ErrShort)
	}
}

// A length above what is allowed is told ahead of bytes that are not there,
// and a length that no list has does no harm.
func TestReadTextOfGreatLengths(t *testing.T) {
	for _, n := range numbers() {
		if n <= 8 {
			continue
		}
		for _, behind := range [][]byte{nil, {1}, []byte("12345678")} {
			b := joined(slowNum(n), behind)
			readTextIs(t, b, n, nil, 0, api.ErrShort)
			readTextIs(t, b, math.MaxInt, nil, 0, api.ErrShort)
			readTextIs(t, b, n-1, nil, 0, api.ErrLimit)
			readTextIs(t, b, 8, nil, 0, api.ErrLimit)
		}
	}
}

// The error of the length is told ahead of all but ErrArg.
func TestReadTextOfLengthsThatAreNone(t *testing.T) {
	for _, most := range []int{0, 1, 127, api.MaxChunk, math.MaxInt} {
		for _, b := range [][]byte{{0x80, 0}, {0xff, 0x80, 0}, repeated(0xff, 9), repeated(0x80, 9)} {
			readTextIs(t, b, most, nil, 0, api.ErrForm)
			readTextIs(t, joined(b, repeated(1, 300)), most, nil, 0, api.ErrForm)
		}
		for _, b := range [][]byte{nil, {0x80}, {0xff}, repeated(0x80, 8), repeated(0xff, 8)} {
			readTextIs(t, b, most, nil, 0, api.ErrShort)
		}
	}
}

func TestReadTextOfAnyBytes(t *testing.T) {
	for seed := range 20000 {
		from := seeded(seed)
		b := from.bytes(from.below(12))
		if len(b) > 0 && seed%2 == 0 {
			b[0] %= 14
		}
		most := from.below(12) - 1
		text, size, e := slowReadText(b, most)
		readTextIs(t, b, most, text, size, e)
	}
}
