package emit

import (
	"recoup/api"
	"recoup/wire"
)

const setBytes = 8

// Write is p's bytes.
func Write(p api.Program) ([]byte, api.Errno) {
	if !canBeWritten(p) {
		return nil, api.ErrArg
	}
	b := withNum(nil, p.Regs)
	b = withNum(b, p.Outs)
	b = withSet(b, p.Reads)
	b = withNum(b, len(p.Steps))
	for _, step := range p.Steps {
		b = append(b, byte(step.Kind))
		for _, number := range numbersOf(step) {
			b = append(b, byte(number))
		}
	}
	return b, api.OK
}

func withNum(b []byte, n int) []byte {
	form, _ := wire.Num(n)
	return append(b, form...)
}

func withSet(b []byte, set api.Set) []byte {
	for range setBytes {
		b = append(b, byte(set>>56))
		set <<= 8
	}
	return b
}

// Read is the program with whose bytes b begins, and how many they are.
func Read(b []byte) (p api.Program, size int, e api.Errno) {
	take := func(part taking) {
		if e != api.OK {
			return
		}
		taken := 0
		taken, e = part(b[size:])
		size += taken
	}
	count := 0
	take(number(&p.Regs, api.MaxRegs))
	take(number(&p.Outs, api.MaxSide))
	take(set(&p.Reads))
	take(number(&count, api.MaxSteps))
	for e == api.OK && len(p.Steps) < count {
		take(oneMore(&p.Steps))
	}
	if e != api.OK {
		return api.Program{}, 0, e
	}
	return p, size, api.OK
}

// taking takes what some bytes begin with, and tells how many bytes that has.
type taking func(b []byte) (size int, e api.Errno)

func number(n *int, most int) taking {
	return func(b []byte) (size int, e api.Errno) {
		*n, size, e = wire.ReadNum(b)
		if *n > most {
			return 0, api.ErrForm
		}
		return size, e
	}
}

func set(s *api.Set) taking {
	return func(b []byte) (size int, e api.Errno) {
		if len(b) < setBytes {
			return 0, api.ErrShort
		}
		for _, x := range b[:setBytes] {
			*s = *s<<8 | api.Set(x)
		}
		return setBytes, api.OK
	}
}

func oneMore(steps *[]api.Step) taking {
	return func(b []byte) (size int, e api.Errno) {
		if len(b) == 0 {
			return 0, api.ErrShort
		}
		kind := api.StepKind(b[0])
		if !isKind(kind) {
			return 0, api.ErrForm
		}
		size = 1 + len(fields[kind])
		if len(b) < size {
			return 0, api.ErrShort
		}
		numbers := make([]int, size-1)
		for i := range numbers {
			numbers[i] = int(b[1+i])
		}
		*steps = append(*steps, stepOf(kind, numbers))
		return size, api.OK
	}
}
