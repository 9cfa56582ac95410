package wire_test

import (
	"bytes"
	"testing"

	"recoup/api"
	"recoup/wire"
)

// must is for calls that answer bytes and no error.
func must(t *testing.T) func(b []byte, e api.Errno) []byte {
	return func(b []byte, e api.Errno) []byte {
		t.Helper()
		if e != api.OK {
			t.Fatal(e)
		}
		return b
	}
}

// behinds are bytes that may stand behind a form.
func behinds() [][]byte {
	return [][]byte{nil, {0}, {1}, {0x7f}, {0x80}, {0xff}, repeated(0, 20), repeated(0xff, 20), seeded(8).bytes(40)}
}

// P8.5
func TestWhatIsReadIsWhatWasWritten(t *testing.T) {
	form := must(t)
	for _, behind := range behinds() {
		for _, n := range numbers() {
			b := form(wire.Num(n))
			readNumIs(t, joined(b, behind), n, len(b), api.OK)
		}
		for _, text := range texts() {
			b := form(wire.Text(text))
			readTextIs(t, joined(b, behind), len(text), text, len(b), api.OK)
		}
		for _, c := range chunks() {
			b := form(wire.Write(c))
			readIs(t, joined(b, behind), c, len(b), api.OK)
		}
	}
}

// Bytes of which many are forms, with what is behind them: what is read of
// them is written as the bytes that were read.
func TestWhatIsReadIsWrittenAsItWas(t *testing.T) {
	form := must(t)
	counts := map[string]int{}
	for seed := range 30000 {
		from := seeded(seed)
		b := from.bytes(from.below(20))
		for i := range b {
			if from.below(3) == 0 {
				b[i] &= 0x80
			}
			if i == 0 && seed%2 == 0 {
				b[i] &= 7
			}
		}
		if n, size, e := wire.ReadNum(b); e == api.OK {
			counts["number"]++
			if again := form(wire.Num(n)); !bytes.Equal(again, b[:size]) {
				t.Errorf("of %s the number %d of %d bytes is read, which is written % x", short(b), n, size, again)
			}
		}
		if text, size, e := wire.ReadText(b, api.MaxChunk); e == api.OK {
			counts["text"]++
			if again := form(wire.Text(text)); !bytes.Equal(again, b[:size]) {
				t.Errorf("of %s the text %s of %d bytes is read, which is written %s", short(b), short(text), size, short(again))
			}
		}
	}
	if counts["number"] < 1000 || counts["text"] < 1000 {
		t.Errorf("hardly anything was read: %v", counts)
	}
}

// Sums that fit behind any bytes, so that chunks are read of them.
func TestChunkThatIsReadIsWrittenAsItWas(t *testing.T) {
	form := must(t)
	read := 0
	for seed := range 20000 {
		from := seeded(seed)
		ahead := append([]byte{byte(from.below(256)), byte(from.below(256)), byte(from.below(3))}, from.bytes(from.below(12))...)
		if seed%2 == 0 {
			ahead[1] = byte(len(ahead) - 2)
		}
		sum := slowSum(ahead)
		b := append(ahead, byte(sum>>24), byte(sum>>16), byte(sum>>8), byte(sum), 0xff)
		c, size, e := wire.Read(b)
		if e != api.OK {
			continue
		}
		read++
		if again := form(wire.Write(c)); !bytes.Equal(again, b[:size]) {
			t.Errorf("of %s the chunk %d, %s of %d bytes is read, which is written %s", short(b), c.Tag, short(c.Body), size, short(again))
		}
	}
	if read < 1000 {
		t.Errorf("hardly anything was read: %d", read)
	}
}

func TestAllOfFormsIsTheirChunks(t *testing.T) {
	form := must(t)
	for count := range 30 {
		l, _, _ := forms(count+100, count)
		var b []byte
		for _, c := range l {
			b = append(b, form(wire.Write(c))...)
		}
		allIs(t, b, l, len(b), api.OK)
		told, _, _ := wire.All(b)
		var again []byte
		for _, c := range told {
			again = append(again, form(wire.Write(c))...)
		}
		if !bytes.Equal(again, b) {
			t.Errorf("what All reads of %s is written %s", short(b), short(again))
		}
	}
}

// P8.6
func TestNoOtherByteReadsAsTheChunk(t *testing.T) {
	form := must(t)
	for seed, length := range []int{0, 1, 2, 3, 5, 9, 60, 127, 128} {
		for _, body := range [][]byte{seeded(seed).bytes(length), repeated(0, length)} {
			c := api.Chunk{Tag: byte(seed * 50), Body: body}
			b := form(wire.Write(c))
			noOtherByteReadsAs(t, c, len(b), b)
			noOtherByteReadsAs(t, c, len(b), joined(b, repeated(0, 140)))
		}
	}
}

// noOtherByteReadsAs turns each byte of a chunk's form into each other one.
func noOtherByteReadsAs(t *testing.T, c api.Chunk, size int, b []byte) {
	t.Helper()
	for place := range size {
		was := b[place]
		for x := range 256 {
			b[place] = byte(x)
			if b[place] == was {
				continue
			}
			want, count, e := slowRead(b)
			if e == api.OK && alike(want, c) {
				t.Errorf("with %d at %d, %s has the form of the chunk that it was", x, place, short(b))
			}
			readIs(t, b, want, count, e)
		}
		b[place] = was
	}
}

func TestSumsOfThreePutAgainstOneAnother(t *testing.T) {
	for length := range 200 {
		from := seeded(length)
		one, two, three := from.bytes(length), from.bytes(length), from.bytes(length)
		against := make([]byte, length)
		for i := range against {
			against[i] = one[i] ^ two[i] ^ three[i]
		}
		if got, want := wire.Sum(against), wire.Sum(one)^wire.Sum(two)^wire.Sum(three); got != want {
			t.Errorf("of three lists of %d bytes, put against one another, Sum = %08x, want %08x", length, got, want)
		}
	}
}
