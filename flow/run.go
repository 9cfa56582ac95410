package flow

import (
	"recoup/api"
	"recoup/field"
	"recoup/matrix"
)

// pieceLength is how many bytes of each block are gone through at one time, so
// that thousands of nodes over long blocks don't fill the memory.
const pieceLength = 4096

// Matrix says for each of Outs how much of which block it is.
func Matrix(f api.Flow, cols int) (api.Matrix, api.Errno) {
	if !May(f) || !areEnough(f, cols) {
		return api.Matrix{}, api.ErrArg
	}
	identity, e := matrix.Identity(cols)
	if e != api.OK {
		return api.Matrix{}, e
	}
	blocks := make([][]byte, cols)
	for i := range blocks {
		blocks[i], _ = matrix.Row(identity, i)
	}
	// The rows of the identity have 1 at their own places alone: what is made of
	// them says how much of each there is.
	m, _ := matrix.Make(len(f.Outs), cols)
	for i, row := range outsOf(f, blocks, cols) {
		copy(m.Data[i*cols:], row)
	}
	return m, api.OK
}

// Run makes the Outs of these blocks.
func Run(f api.Flow, blocks [][]byte) ([][]byte, api.Errno) {
	if !May(f) {
		return nil, api.ErrArg
	}
	if !areEnough(f, len(blocks)) {
		return nil, api.ErrShape
	}
	length := 0
	for i, block := range blocks {
		if i > 0 && len(block) != length {
			return nil, api.ErrShape
		}
		length = len(block)
	}
	return outsOf(f, blocks, length), api.OK
}

// areEnough asks whether of so many blocks there is one for each of Inputs.
func areEnough(f api.Flow, blocks int) bool {
	return len(f.Inputs) == 0 || f.Inputs[len(f.Inputs)-1] < blocks
}

// outsOf makes the Outs of blocks that are enough and all of this length.
func outsOf(f api.Flow, blocks [][]byte, length int) [][]byte {
	outs := make([][]byte, len(f.Outs))
	for i := range outs {
		outs[i] = make([]byte, length)
	}
	needed := neededFor(f)
	for from := 0; from < length; from += pieceLength {
		to := min(from+pieceLength, length)
		values := valuesOf(f, needed, blocks, from, to)
		for i, out := range f.Outs {
			copy(outs[i][from:to], values[out])
		}
	}
	return outs
}

// valuesOf are the values that are needed, from one byte on to ahead of another:
// to be read, for those of inputs are pieces of the blocks.
func valuesOf(f api.Flow, needed []bool, blocks [][]byte, from, to int) [][]byte {
	made := make([][]byte, valueCount(f))
values:
	for value := range made {
		if !needed[value] {
			continue values
		}
		if value < len(f.Inputs) {
			made[value] = blocks[f.Inputs[value]][from:to]
			continue values
		}
		made[value] = sumOf(termsOf(f, value), made, to-from)
	}
	return made
}

// sumOf is the sum of a node's terms.
func sumOf(terms []api.Term, values [][]byte, length int) []byte {
	sum := make([]byte, length)
	for _, term := range terms {
		for i, element := range multiple(term.By, values[term.Of]) {
			sum[i] ^= element
		}
	}
	return sum
}

// multiple is so many times a block: to be read, for once it is the block
// itself.
func multiple(by byte, block []byte) []byte {
	if by == 1 {
		return block
	}
	return field.Scale(by, block)
}
