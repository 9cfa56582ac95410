package wire_test

import (
	"bytes"
	"encoding/binary"
	"hash/crc32"
	"math"
	"math/big"
	"slices"
	"strconv"
	"testing"

	"recoup/api"
	"recoup/wire"
)

// What the package must tell is found out here in other ways: numbers by their
// binary digits, forms by looking whether a form is what the bytes begin with.

// source tells numbers by a simple rule that differs from seed to seed.
type source struct {
	state uint64
}

func seeded(seed int) *source {
	return &source{uint64(seed)*0x9e3779b97f4a7c15 + 12345}
}

func (s *source) word() uint64 {
	s.state = s.state*6364136223846793005 + 1442695040888963407
	return s.state ^ s.state>>32
}

// below is a number from 0 to ahead of n.
func (s *source) below(n int) int {
	return int(s.word() >> 1 % uint64(n))
}

// bytes are so many, any ones.
func (s *source) bytes(count int) []byte {
	made := make([]byte, count)
	for i := range made {
		made[i] = byte(s.word() >> 24)
	}
	return made
}

// filled fills the room behind the end of a list that is handed in.
const filled = 0xa5

// roomy is a list with room behind its end, which is filled.
func roomy(list []byte) []byte {
	room := bytes.Repeat([]byte{filled}, len(list)+16)
	copy(room, list)
	return room[:len(list)]
}

// joined are lists, one behind the other.
func joined(lists ...[]byte) []byte {
	return slices.Concat(lists...)
}

// repeated is one byte so many times.
func repeated(x byte, count int) []byte {
	return bytes.Repeat([]byte{x}, count)
}

// slowNum takes the binary digits of a number in groups of seven from the end.
func slowNum(n int) []byte {
	digits := strconv.FormatInt(int64(n), 2)
	var made []byte
	for len(digits) > 7 {
		group, _ := strconv.ParseUint("1"+digits[len(digits)-7:], 2, 8)
		made = append(made, byte(group))
		digits = digits[:len(digits)-7]
	}
	group, _ := strconv.ParseUint(digits, 2, 7)
	return append(made, byte(group))
}

// slowReadNum tells whether some first bytes are a number's form; whether all
// could be the beginning of one; else there is none.
func slowReadNum(b []byte) (n, size int, e api.Errno) {
	for size := 1; size <= min(len(b), 9); size++ {
		sum := new(big.Int)
		for i, x := range b[:size] {
			group := big.NewInt(int64(x % 128))
			sum.Add(sum, group.Lsh(group, uint(7*i)))
		}
		if sum.IsInt64() && bytes.Equal(slowNum(int(sum.Int64())), b[:size]) {
			return int(sum.Int64()), size, api.OK
		}
	}
	for _, x := range b {
		if x < 128 {
			return 0, 0, api.ErrForm
		}
	}
	if len(b) < 9 {
		return 0, 0, api.ErrShort
	}
	return 0, 0, api.ErrForm
}

func slowText(t []byte) []byte {
	return joined(slowNum(len(t)), t)
}

func slowReadText(b []byte, most int) (t []byte, size int, e api.Errno) {
	n, size, e := slowReadNum(b)
	switch {
	case most < 0:
		return nil, 0, api.ErrArg
	case e != api.OK:
		return nil, 0, e
	case n > most:
		return nil, 0, api.ErrLimit
	case len(b) < size || len(b)-size < n:
		return nil, 0, api.ErrShort
	}
	return b[size : size+n], size + n, api.OK
}

func slowSum(b []byte) uint32 {
	return crc32.ChecksumIEEE(b)
}

func slowWrite(c api.Chunk) []byte {
	ahead := joined([]byte{c.Tag}, slowText(c.Body))
	return binary.BigEndian.AppendUint32(ahead, slowSum(ahead))
}

func slowRead(b []byte) (c api.Chunk, size int, e api.Errno) {
	if len(b) == 0 {
		return c, 0, api.ErrShort
	}
	body, size, e := slowReadText(b[1:], api.MaxChunk)
	if e != api.OK {
		return c, 0, e
	}
	made := api.Chunk{Tag: b[0], Body: body}
	form := slowWrite(made)
	switch {
	case len(b) < len(form):
		return c, 0, api.ErrShort
	case !bytes.HasPrefix(b, form):
		return c, 0, api.ErrSum
	}
	return made, len(form), api.OK
}

func slowAll(b []byte) (l []api.Chunk, at int, e api.Errno) {
	for at < len(b) {
		c, size, e := slowRead(b[at:])
		if e != api.OK {
			return nil, at, e
		}
		l, at = append(l, c), at+size
	}
	return l, at, api.OK
}

// numbers are the edges: 0, those beside the powers of 2, the greatest one;
// and some of each length.
func numbers() []int {
	made := []int{0, 300, api.MaxChunk + 1, math.MaxInt32 + 1, math.MaxInt}
	for bits := range 63 {
		made = append(made, 1<<bits-1, 1<<bits, 1<<bits+1)
	}
	from := seeded(1)
	for bits := range 63 {
		for range 20 {
			made = append(made, int(from.word()>>(1+bits)))
		}
	}
	return made
}

// lengths of texts: none, few, those whose own length has a byte more.
func lengths() []int {
	return []int{0, 1, 2, 3, 4, 5, 6, 7, 8, 20, 126, 127, 128, 129, 255, 256, 300, 16383, 16384, 16385}
}

// texts are some of each length, one of noughts, one of ff.
func texts() [][]byte {
	made := [][]byte{[]byte("ab"), []byte("123456789")}
	for seed, length := range lengths() {
		made = append(made, seeded(seed).bytes(length), repeated(0, length), repeated(0xff, length))
	}
	return made
}

// chunks are some with each text, and with each tag.
func chunks() []api.Chunk {
	var made []api.Chunk
	for i, t := range texts() {
		made = append(made, api.Chunk{Tag: byte(i * 37), Body: t})
	}
	for tag := range 256 {
		made = append(made, api.Chunk{Tag: byte(tag), Body: seeded(tag).bytes(tag % 5)})
	}
	return made
}

func alike(one, other api.Chunk) bool {
	return one.Tag == other.Tag && bytes.Equal(one.Body, other.Body)
}

func allAlike(some, others []api.Chunk) bool {
	return slices.EqualFunc(some, others, alike)
}

// short is a list as it can be told.
func short(b []byte) string {
	if len(b) > 24 {
		return strconv.Itoa(len(b)) + " bytes " + strconv.QuoteToASCII(string(b[:24])) + ".."
	}
	return strconv.QuoteToASCII(string(b))
}

func numIs(t *testing.T, n int, want []byte, wrong api.Errno) {
	t.Helper()
	if b, e := wire.Num(n); !bytes.Equal(b, want) || e != wrong {
		t.Errorf("Num(%d) = % x, %v, want % x, %v", n, b, e, want, wrong)
	}
}

func readNumIs(t *testing.T, b []byte, want, bytes int, wrong api.Errno) {
	t.Helper()
	if n, size, e := wire.ReadNum(b); n != want || size != bytes || e != wrong {
		t.Errorf("ReadNum(%s) = %d, %d, %v, want %d, %d, %v", short(b), n, size, e, want, bytes, wrong)
	}
}

func textIs(t *testing.T, text, want []byte, wrong api.Errno) {
	t.Helper()
	if b, e := wire.Text(text); !bytes.Equal(b, want) || e != wrong {
		t.Errorf("Text(%s) = %s, %v, want %s, %v", short(text), short(b), e, short(want), wrong)
	}
}

func readTextIs(t *testing.T, b []byte, most int, want []byte, count int, wrong api.Errno) {
	t.Helper()
	if text, size, e := wire.ReadText(b, most); !bytes.Equal(text, want) || size != count || e != wrong {
		t.Errorf("ReadText(%s, %d) = %s, %d, %v, want %s, %d, %v", short(b), most, short(text), size, e, short(want), count, wrong)
	}
}

func writeIs(t *testing.T, c api.Chunk, want []byte, wrong api.Errno) {
	t.Helper()
	if b, e := wire.Write(c); !bytes.Equal(b, want) || e != wrong {
		t.Errorf("Write of %d and %s = %s, %v, want %s, %v", c.Tag, short(c.Body), short(b), e, short(want), wrong)
	}
}

func readIs(t *testing.T, b []byte, want api.Chunk, count int, wrong api.Errno) {
	t.Helper()
	if c, size, e := wire.Read(b); !alike(c, want) || size != count || e != wrong {
		t.Errorf("Read(%s) = %d and %s, %d, %v, want %d and %s, %d, %v", short(b), c.Tag, short(c.Body), size, e, want.Tag, short(want.Body), count, wrong)
	}
}

func allIs(t *testing.T, b []byte, want []api.Chunk, where int, wrong api.Errno) {
	t.Helper()
	if l, at, e := wire.All(b); !allAlike(l, want) || at != where || e != wrong {
		t.Errorf("All(%s) = %d chunks, %d, %v, want %d chunks, %d, %v", short(b), len(l), at, e, len(want), where, wrong)
	}
}
