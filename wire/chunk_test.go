package wire_test

import (
	"math"
	"testing"

	"recoup/api"
)

// P8.4
func TestChunksOfExamples(t *testing.T) {
	one := []byte{1, 0, 0x58, 0xc2, 0x23, 0xbe}
	writeIs(t, api.Chunk{Tag: 1}, one, api.OK)
	writeIs(t, api.Chunk{Tag: 1, Body: []byte{}}, one, api.OK)
	readIs(t, joined(one, []byte{0xff}), api.Chunk{Tag: 1}, 6, api.OK)
	readIs(t, []byte{1, 0, 0x58, 0xc2, 0x23, 0xbe ^ 0xff}, api.Chunk{}, 0, api.ErrSum)
	readIs(t, []byte{1}, api.Chunk{}, 0, api.ErrShort)
	allIs(t, joined(one, one), []api.Chunk{{Tag: 1}, {Tag: 1}}, 12, api.OK)
	allIs(t, nil, nil, 0, api.OK)
	allIs(t, []byte{}, nil, 0, api.OK)
	allIs(t, joined(one, []byte{1}), nil, 6, api.ErrShort)
}

func TestChunks(t *testing.T) {
	for _, c := range chunks() {
		form := slowWrite(c)
		writeIs(t, c, form, api.OK)
		for _, behind := range [][]byte{nil, {0}, {0xff}, form} {
			readIs(t, joined(form, behind), c, len(form), api.OK)
		}
	}
}

func TestChunkOfAsManyBytesAsMayBe(t *testing.T) {
	body := seeded(4).bytes(api.MaxChunk + 2)
	most := api.Chunk{Tag: 9, Body: body[:api.MaxChunk]}
	above := api.Chunk{Tag: 9, Body: body[:api.MaxChunk+1]}
	form := slowWrite(most)
	writeIs(t, most, form, api.OK)
	readIs(t, form, most, api.MaxChunk+9, api.OK)
	readIs(t, form[:len(form)-1], api.Chunk{}, 0, api.ErrShort)
	allIs(t, joined(form, form), []api.Chunk{most, most}, 2*len(form), api.OK)
	writeIs(t, above, nil, api.ErrLimit)
	writeIs(t, api.Chunk{Body: body}, nil, api.ErrLimit)
	// A length above the limit, with all its bytes and its sum behind it.
	readIs(t, slowWrite(above), api.Chunk{}, 0, api.ErrLimit)
	allIs(t, joined(slowWrite(api.Chunk{Tag: 3}), slowWrite(above)), nil, 6, api.ErrLimit)
}

// Bytes that end within the length, the body, the sum.
func TestReadThatEndsEarly(t *testing.T) {
	for _, c := range chunks() {
		form := slowWrite(c)
		for end := 0; end < len(form); end += 1 + end/40 {
			readIs(t, form[:end:end], api.Chunk{}, 0, api.ErrShort)
		}
		for end := len(form) - 5; end < len(form); end++ {
			readIs(t, form[:end:end], api.Chunk{}, 0, api.ErrShort)
		}
	}
}

// The sum is told of last, and with its highest byte first.
func TestReadOfOtherSums(t *testing.T) {
	for _, c := range chunks() {
		form := slowWrite(c)
		at := len(form) - 4
		for bit := range 32 {
			turned := joined(form)
			turned[at+bit/8] ^= 1 << (bit % 8)
			readIs(t, turned, api.Chunk{}, 0, api.ErrSum)
			readIs(t, joined(turned, form), api.Chunk{}, 0, api.ErrSum)
			readIs(t, turned[:at+3], api.Chunk{}, 0, api.ErrShort)
		}
		other := joined(form)
		other[at], other[at+1], other[at+2], other[at+3] = form[at+3], form[at+2], form[at+1], form[at]
		if string(other) != string(form) {
			readIs(t, other, api.Chunk{}, 0, api.ErrSum)
		}
	}
	readIs(t, []byte{1, 0, 0, 0, 0, 0}, api.Chunk{}, 0, api.ErrSum)
}

// The sum goes over the tag and the length, too.
func TestSumGoesOverAllBytesAheadOfIt(t *testing.T) {
	form := slowWrite(api.Chunk{Tag: 1, Body: []byte{0, 0, 0}})
	other := joined(form)
	other[0] = 2
	readIs(t, other, api.Chunk{}, 0, api.ErrSum)
	other = joined(form)
	other[1] = 2
	readIs(t, other, api.Chunk{}, 0, api.ErrSum)
}

// ReadText's error is told ahead of what is behind.
func TestReadOfBodiesThatAreNone(t *testing.T) {
	for tag := range 256 {
		ahead := []byte{byte(tag)}
		for _, behind := range [][]byte{nil, {0}, repeated(0, 30)} {
			readIs(t, joined(ahead, []byte{0x80, 0}, behind), api.Chunk{}, 0, api.ErrForm)
			readIs(t, joined(ahead, repeated(0xff, 9), behind), api.Chunk{}, 0, api.ErrForm)
			for _, n := range []int{api.MaxChunk + 1, math.MaxInt32, math.MaxInt} {
				readIs(t, joined(ahead, slowNum(n), behind), api.Chunk{}, 0, api.ErrLimit)
			}
			readIs(t, joined(ahead, slowNum(api.MaxChunk), behind), api.Chunk{}, 0, api.ErrShort)
		}
		readIs(t, joined(ahead, []byte{0x80}), api.Chunk{}, 0, api.ErrShort)
		readIs(t, ahead, api.Chunk{}, 0, api.ErrShort)
	}
	readIs(t, nil, api.Chunk{}, 0, api.ErrShort)
	readIs(t, []byte{}, api.Chunk{}, 0, api.ErrShort)
}

func TestReadOfAnyBytes(t *testing.T) {
	for seed := range 20000 {
		from := seeded(seed)
		b := from.bytes(from.below(14))
		if len(b) > 1 && seed%2 == 0 {
			b[1] %= 10
		}
		c, size, e := slowRead(b)
		readIs(t, b, c, size, e)
	}
}

// forms are some chunks and their forms, one behind the other; where each of
// these begins, and where the last one ends.
func forms(seed, count int) (l []api.Chunk, b []byte, places []int) {
	from := seeded(seed)
	for range count {
		c := api.Chunk{Tag: byte(from.below(256)), Body: from.bytes(from.below(9))}
		l, places = append(l, c), append(places, len(b))
		b = append(b, slowWrite(c)...)
	}
	return l, b, append(places, len(b))
}

func TestAllOfSeveral(t *testing.T) {
	for count := range 40 {
		l, b, _ := forms(count, count)
		allIs(t, b, l, len(b), api.OK)
	}
	for _, count := range []int{1000, 30000} {
		l, b, _ := forms(count, count)
		allIs(t, b, l, len(b), api.OK)
	}
	allIs(t, slowWrites(chunks()), chunks(), len(slowWrites(chunks())), api.OK)
}

func slowWrites(l []api.Chunk) []byte {
	var b []byte
	for _, c := range l {
		b = append(b, slowWrite(c)...)
	}
	return b
}

// A form that is none behind ones that are: each kind, behind 0 and more.
func TestAllTellsWhereTheFirstFormThatIsNoneBegins(t *testing.T) {
	good := slowWrite(api.Chunk{Tag: 7, Body: []byte("good")})
	sumTurned := joined(good)
	sumTurned[len(good)-1] ^= 1
	for count := range 12 {
		_, b, _ := forms(count, count)
		for _, bad := range []struct {
			form []byte
			e    api.Errno
		}{
			{[]byte{7}, api.ErrShort},
			{[]byte{7, 0x80}, api.ErrShort},
			{[]byte{7, 1}, api.ErrShort},
			{good[:len(good)-1], api.ErrShort},
			{[]byte{7, 0x80, 0}, api.ErrForm},
			{append([]byte{7}, repeated(0xff, 9)...), api.ErrForm},
			{append([]byte{7}, slowNum(api.MaxChunk+1)...), api.ErrLimit},
			{sumTurned, api.ErrSum},
		} {
			allIs(t, joined(b, bad.form), nil, len(b), bad.e)
			if bad.e != api.ErrShort {
				allIs(t, joined(b, bad.form, good), nil, len(b), bad.e)
				allIs(t, joined(b, bad.form, []byte{7, 0x80, 0}), nil, len(b), bad.e)
			}
		}
	}
}

// The forms may end between two chunks, nowhere else.
func TestAllThatEndsEarly(t *testing.T) {
	for seed := range 10 {
		l, b, places := forms(seed, 6)
		next := 0
		for end := range len(b) + 1 {
			if end == places[next] {
				allIs(t, b[:end:end], l[:next], end, api.OK)
				next++
			} else {
				allIs(t, b[:end:end], nil, places[next-1], api.ErrShort)
			}
		}
	}
}

func TestAllOfAnyBytes(t *testing.T) {
	for seed := range 10000 {
		from := seeded(seed)
		_, b, _ := forms(seed, from.below(4))
		for range from.below(3) {
			b = append(b, from.bytes(from.below(5))...)
		}
		if len(b) > 0 && seed%3 == 0 {
			b[from.below(len(b))] ^= byte(1 + from.below(255))
		}
		l, at, e := slowAll(b)
		allIs(t, b, l, at, e)
	}
}
