package emit_test

import (
	"fmt"
	"math"
	"slices"

	"recoup/api"
	"recoup/flow"
	"recoup/regs"
	"recoup/share"
)

// source tells numbers by a simple rule that differs from seed to seed.
type source struct {
	state uint32
}

func seeded(seed int) *source {
	return &source{uint32(seed)*2654435761 + 12345}
}

// below is a number from 0 to ahead of n.
func (s *source) below(n int) int {
	s.state = s.state*1664525 + 1013904223
	return int(s.state>>16) % n
}

func one[T any](s *source, list []T) T {
	return list[s.below(len(list))]
}

// list are so many bytes, any ones.
func (s *source) list(length int) []byte {
	made := make([]byte, length)
	for i := range made {
		made[i] = byte(s.below(256))
	}
	return made
}

// octet is 0 and 255 more often than other numbers.
func (s *source) octet() int {
	return one(s, []int{0, 255, 9, 10, 99, 100, s.below(256), s.below(256)})
}

// set is none, all, few, any numbers.
func (s *source) set() api.Set {
	some := api.Set(s.below(1<<16))<<48 | api.Set(s.below(1<<16))<<32 | api.Set(s.below(1<<16))<<16 | api.Set(s.below(1<<16))
	return one(s, []api.Set{0, math.MaxUint64, 1 << s.below(64), some})
}

// step is one that can be written.
func (s *source) step() api.Step {
	step := api.Step{Kind: api.StepKind(1 + s.below(4)), D: s.octet()}
	if step.Kind != api.XClear {
		step.S = s.octet()
	}
	if step.Kind == api.XMac {
		step.C = byte(s.octet())
	}
	return step
}

// program is one of so many steps that can be written. Its steps are any ones:
// that they can be done is not asked for.
func (s *source) program(count int) api.Program {
	p := api.Program{Regs: one(s, []int{0, 1, 255, 256, s.below(257)}), Outs: one(s, []int{0, 1, 63, 64, s.below(65)}), Reads: s.set()}
	for range count {
		p.Steps = append(p.Steps, s.step())
	}
	return p
}

// must is for calls that answer no error.
func must[T any](made T, e api.Errno) T {
	if e != api.OK {
		panic(e)
	}
	return made
}

// kind is a program with a name.
type kind struct {
	name string
	p    api.Program
}

// ofFlows are programs that come of matrices' flows, as they are and shared.
func ofFlows() []kind {
	var made []kind
	s := seeded(3)
	for _, sides := range [][2]int{{0, 0}, {1, 1}, {2, 1}, {1, 2}, {3, 3}, {5, 2}, {8, 12}, {0, 5}, {5, 0}, {64, 1}, {1, 64}, {20, 20}, {64, 64}} {
		for _, from := range []int{0, 128, 250} {
			m := api.Matrix{Rows: sides[0], Cols: sides[1], Data: s.list(sides[0] * sides[1])}
			for i, x := range m.Data {
				m.Data[i] = byte(max(from, int(x)) - from)
			}
			f := must(flow.Of(m))
			made = append(made, kind{fmt.Sprint("flow ", sides, from), must(regs.Give(f))})
			if sides != [2]int{64, 64} {
				made = append(made, kind{fmt.Sprint("shared flow ", sides, from), must(regs.Give(must(share.Share(f))))})
			}
		}
	}
	return made
}

// long is a program of so many steps.
func long(count int) api.Program {
	p := api.Program{Steps: slices.Repeat(steps("mac 1 2 3"), count), Regs: 3, Outs: 1, Reads: 5}
	if count > 0 {
		p.Steps[count-1] = steps("out 0 1")[0]
	}
	return p
}

// atEdges are programs at the chapter's edges, one by one.
func atEdges() []kind {
	made := []kind{
		{"nothing", api.Program{}},
		{"the chapter's", chapters()},
		{"all at their greatest", api.Program{Steps: steps("clear 255; load 255 255; mac 255 255 255; out 255 255"), Regs: 256, Outs: 64, Reads: math.MaxUint64}},
		{"all at their least", api.Program{Steps: steps("clear 0; load 0 0; mac 0 0 0; out 0 0")}},
	}
	for _, n := range []int{1, 2, 9, 10, 11, 99, 100, 101, 127, 128, 129, 200, 254, 255, 256} {
		made = append(made, kind{fmt.Sprint("Regs ", n), api.Program{Regs: n}})
	}
	for n := range 65 {
		made = append(made, kind{fmt.Sprint("Outs ", n), api.Program{Outs: n}}, kind{fmt.Sprint("Reads below ", n), api.Program{Reads: 1<<n - 1}})
	}
	for n := range 64 {
		made = append(made, kind{fmt.Sprint("Reads ", n), api.Program{Reads: 1 << n}}, kind{fmt.Sprint("Reads but ", n), api.Program{Reads: ^(1 << n)}})
	}
	for _, count := range []int{1, 2, 126, 127, 128, 129, 255, 256, 16383, 16384, 16385, 65535, 65536} {
		made = append(made, kind{fmt.Sprint(count, " steps"), long(count)})
	}
	return append(made, ofOneStep()...)
}

// ofOneStep are programs of one step, each of its fields being anything.
func ofOneStep() []kind {
	var made []kind
	for at := range 256 {
		for _, step := range []api.Step{
			{Kind: 1, D: at},
			{Kind: 2, D: at, S: 7}, {Kind: 2, D: 7, S: at},
			{Kind: 3, D: at, S: 7, C: 8}, {Kind: 3, D: 7, S: at, C: 8}, {Kind: 3, D: 7, S: 8, C: byte(at)},
			{Kind: 4, D: at, S: 7}, {Kind: 4, D: 7, S: at},
		} {
			made = append(made, kind{toldStep(step), api.Program{Steps: []api.Step{step}}})
		}
	}
	return made
}

// chapters is the chapter's: clear 0; mac 0 0 7.
func chapters() api.Program {
	return api.Program{Steps: steps("clear 0; mac 0 0 7"), Regs: 1}
}

// everyProgram does something to programs of all kinds that can be written: those
// at edges, those of flows, any ones from small to greater ones.
func everyProgram(do func(name string, p api.Program)) {
	for _, k := range append(atEdges(), ofFlows()...) {
		do(k.name, k.p)
	}
	anyProgram(do)
}

// anyProgram does it to any ones alone.
func anyProgram(do func(name string, p api.Program)) {
	for seed := range 2000 {
		s := seeded(seed)
		do(fmt.Sprint("seed ", seed), s.program(s.below(2+seed/100)))
	}
	for seed := range 30 {
		s := seeded(seed)
		do(fmt.Sprint("great seed ", seed), s.program(s.below(3000)))
	}
}

// edges are numbers as great and as small as an int can be, and those beside
// what may be.
func edges() []int {
	return []int{math.MinInt, math.MinInt + 1, math.MinInt32, -65536, -256, -255, -64, -2, -1, 257, 258, 300, 511, 512, 1000, 65535, 65536, 65537, math.MaxInt32, 1 << 32, 1<<32 + 1, math.MaxInt - 1, math.MaxInt}
}

// copied is a program of the same steps that shares nothing with it.
func copied(p api.Program) api.Program {
	p.Steps = slices.Clone(p.Steps)
	return p
}
