package wire

import "recoup/api"

const sumBytes = 4

// Write is the form of a chunk.
func Write(c api.Chunk) ([]byte, api.Errno) {
	if len(c.Body) > api.MaxChunk {
		return nil, api.ErrLimit
	}
	b := withText([]byte{c.Tag}, c.Body)
	return withSum(b, Sum(b)), api.OK
}

func withSum(b []byte, sum uint32) []byte {
	for range sumBytes {
		b = append(b, byte(sum>>24))
		sum <<= 8
	}
	return b
}

// sumAt is the sum that the first four bytes are the form of.
func sumAt(b []byte) uint32 {
	var sum uint32
	for _, x := range b[:sumBytes] {
		sum <<= 8
		sum |= uint32(x)
	}
	return sum
}

// Read is the chunk with whose form b begins, and the size of that.
func Read(b []byte) (c api.Chunk, size int, e api.Errno) {
	s := made()
	return s.read(b)
}

func (s *sums) read(b []byte) (c api.Chunk, size int, e api.Errno) {
	if len(b) == 0 {
		return api.Chunk{}, 0, api.ErrShort
	}
	body, size, e := ReadText(behind(b, 1), api.MaxChunk)
	if e != api.OK {
		return api.Chunk{}, 0, e
	}
	size++
	rest := behind(b, size)
	if len(rest) < sumBytes {
		return api.Chunk{}, 0, api.ErrShort
	}
	if s.of(b[:size]) != sumAt(rest) {
		return api.Chunk{}, 0, api.ErrSum
	}
	return api.Chunk{Tag: b[0], Body: body}, size + sumBytes, api.OK
}

// All is the chunks whose forms b is, and its size; or where the first form
// that is none begins, and why it is none.
func All(b []byte) (l []api.Chunk, at int, e api.Errno) {
	s := made()
	for at < len(b) {
		c, size, e := s.read(behind(b, at))
		if e != api.OK {
			return nil, at, e
		}
		l = append(l, c)
		at += size
	}
	return l, at, api.OK
}
