package regs

import (
	"slices"

	"recoup/api"
	"recoup/field"
)

// Run does the steps of p one by one, and tells what came out at each place.
func Run(p api.Program, blocks [][]byte) ([][]byte, api.Errno) {
	length, ok := lengthOf(blocks)
	if !ok {
		return nil, api.ErrShape
	}
	if !isWithinLimits(p) {
		return nil, api.ErrArg
	}
	r := runner{program: p, blocks: blocks, noughts: make([]byte, length), outs: make([][]byte, p.Outs)}
	if !r.doSteps() || slices.Contains(r.done[:p.Outs], false) {
		return nil, api.ErrArg
	}
	return r.outs, api.OK
}

// lengthOf is the length that all blocks have, if it is one.
func lengthOf(blocks [][]byte) (length int, ok bool) {
	for i, block := range blocks {
		if i > 0 && len(block) != length {
			return 0, false
		}
		length = len(block)
	}
	return length, true
}

func isWithinLimits(p api.Program) bool {
	return 0 <= p.Regs && p.Regs <= api.MaxRegs && 0 <= p.Outs && p.Outs <= api.MaxSide && len(p.Steps) <= api.MaxSteps
}

// runner has what a program has made so far. What its registers hold is never
// written to: they may hold the blocks themselves, and all of them the same
// noughts.
type runner struct {
	program   api.Program
	blocks    [][]byte
	noughts   []byte
	registers [api.MaxRegs][]byte
	held      [api.MaxRegs]bool
	outs      [][]byte
	done      [api.MaxSide]bool
}

// doSteps does the steps up to the first one that can't be done, and tells
// whether there was none.
func (r *runner) doSteps() bool {
	done := 0
steps:
	for _, step := range r.program.Steps {
		switch step.Kind {
		case api.XClear:
			if !r.isRegister(step.D) {
				break steps
			}
			r.hold(step.D, r.noughts)
		case api.XLoad:
			if !r.isRegister(step.D) || step.S < 0 || step.S >= len(r.blocks) {
				break steps
			}
			r.hold(step.D, r.blocks[step.S])
		case api.XMac:
			if !r.holds(step.D) || !r.holds(step.S) {
				break steps
			}
			sum, _ := field.Mac(r.registers[step.D], step.C, r.registers[step.S])
			r.hold(step.D, sum)
		case api.XOut:
			if !r.isOpen(step.D) || !r.holds(step.S) {
				break steps
			}
			r.letOut(step.D, r.registers[step.S])
		default:
			break steps
		}
		done++
	}
	return done == len(r.program.Steps)
}

func (r *runner) isRegister(number int) bool {
	return 0 <= number && number < r.program.Regs
}

// holds asks whether this is a register that was cleared or loaded.
func (r *runner) holds(number int) bool {
	return r.isRegister(number) && r.held[number]
}

// isOpen asks whether this is a place at which nothing came out yet.
func (r *runner) isOpen(place int) bool {
	return 0 <= place && place < r.program.Outs && !r.done[place]
}

func (r *runner) hold(register int, block []byte) {
	r.registers[register] = block
	r.held[register] = true
}

func (r *runner) letOut(place int, block []byte) {
	r.outs[place] = slices.Clone(block)
	r.done[place] = true
}
