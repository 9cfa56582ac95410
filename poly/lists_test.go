package poly_test

import (
	"bytes"

	"recoup/api"
)

// behind fills the room behind the end of a list that is handed in.
const behind = 0xa5

// list makes length elements by a simple rule that differs from seed to seed,
// the last of them not 0, with room behind its end.
func list(length, seed int) []byte {
	room := bytes.Repeat([]byte{behind}, length+8)
	state := uint32(seed)*2654435761 + 12345
	for i := range length {
		state = state*1664525 + 1013904223
		room[i] = byte(state >> 24)
	}
	if length > 0 && room[length-1] == 0 {
		room[length-1] = 1
	}
	return room[:length]
}

// withNoughts is p with noughts at its end, and room behind them.
func withNoughts(p []byte, count int) []byte {
	room := bytes.Repeat([]byte{behind}, len(p)+count+8)
	copy(room, p)
	clear(room[len(p) : len(p)+count])
	return room[:len(p)+count]
}

// power is x to the power n, alone, with the coefficient c.
func power(c byte, n int) []byte {
	p := withNoughts(nil, n+1)
	p[n] = c
	return p
}

// zeros are forms of the polynomial 0.
func zeros() [][]byte {
	return [][]byte{nil, {}, withNoughts(nil, 0), {0}, withNoughts(nil, 5), withNoughts(nil, api.MaxPoly+9)}
}

// held is a list as it was handed in, to be looked at again later.
type held struct {
	handed, before []byte
}

func hold(handed []byte) held {
	return held{handed, bytes.Clone(handed[:cap(handed)])}
}

func (h held) same() bool {
	return bytes.Equal(h.handed[:cap(h.handed)], h.before)
}

// spoil turns all bits of a list, and of the room behind its end.
func spoil(a []byte) {
	room := a[:cap(a)]
	for i := range room {
		room[i] ^= 0xff
	}
}

// slowTimes multiplies two elements as numbers of 16 bits and takes the
// remainder by 0x11d from the top down.
func slowTimes(a, b byte) byte {
	wide := 0
	for i := range 8 {
		if b>>i&1 == 1 {
			wide ^= int(a) << i
		}
	}
	for bit := 15; bit >= 8; bit-- {
		if wide>>bit&1 == 1 {
			wide ^= 0x11d << (bit - 8)
		}
	}
	return byte(wide)
}

// slowEval sums up the coefficients times powers from the lowest on.
func slowEval(p []byte, x byte) byte {
	var sum byte
	high := byte(1)
	for _, c := range p {
		sum ^= slowTimes(c, high)
		high = slowTimes(high, x)
	}
	return sum
}

func slowTrim(p []byte) []byte {
	return bytes.TrimRight(bytes.Clone(p), "\x00")
}

func slowAdd(p, q []byte) []byte {
	sum := make([]byte, max(len(p), len(q)))
	for i := range sum {
		if i < len(p) {
			sum[i] ^= p[i]
		}
		if i < len(q) {
			sum[i] ^= q[i]
		}
	}
	return slowTrim(sum)
}

func slowMul(p, q []byte) []byte {
	product := make([]byte, len(p)+len(q))
	for i := range p {
		for j := range q {
			product[i+j] ^= slowTimes(p[i], q[j])
		}
	}
	return slowTrim(product)
}

// slowFromRoots is the product of the factors.
func slowFromRoots(roots []byte) []byte {
	product := []byte{1}
	for _, root := range roots {
		product = slowMul(product, []byte{root, 1})
	}
	return product
}

// elements are all of them, rising.
func elements() []byte {
	all := make([]byte, 256)
	for x := range all {
		all[x] = byte(x)
	}
	return all
}
