package regs_test

import (
	"fmt"
	"slices"

	"recoup/api"
)

// stuffed is the step with anything in the fields that its Kind doesn't name.
func (s *source) stuffed(step api.Step) api.Step {
	if step.Kind == api.XClear {
		step.S = one(s, edges())
	}
	if step.Kind != api.XMac {
		step.C = byte(s.below(256))
	}
	return step
}

// program is one whose steps can be done over so many blocks, with anything in
// what is not looked at: of so many registers, places and about so many steps.
// Without registers it has nothing else.
func (s *source) program(regs, outs, blocks, count int) api.Program {
	if regs == 0 {
		return api.Program{Reads: api.Set(s.below(1 << 16))}
	}
	p := api.Program{Regs: regs, Outs: outs, Reads: api.Set(s.below(1 << 16))}
	var held []int
	hold := func(step api.Step) {
		p.Steps = append(p.Steps, s.stuffed(step))
		held = append(held, step.D)
	}
	hold(api.Step{Kind: api.XClear, D: s.below(regs)})
	places := counted(0, outs)
	for len(p.Steps) < count || len(places) > 0 {
		switch s.below(6) {
		case 0:
			hold(api.Step{Kind: api.XClear, D: s.below(regs)})
		case 1, 2:
			if blocks > 0 {
				hold(api.Step{Kind: api.XLoad, D: s.below(regs), S: s.below(blocks)})
			}
		case 3, 4:
			hold(api.Step{Kind: api.XMac, D: one(s, held), S: one(s, held), C: byte(s.below(256))})
		default:
			if len(places) == 0 {
				continue
			}
			at := s.below(len(places))
			p.Steps = append(p.Steps, s.stuffed(api.Step{Kind: api.XOut, D: places[at], S: one(s, held)}))
			places = slices.Delete(places, at, at+1)
		}
	}
	return p
}

// full is a program of so many steps that can be done without blocks.
func full(count int) api.Program {
	p := api.Program{Steps: slices.Repeat([]api.Step{{Kind: api.XClear}}, count), Regs: 1, Outs: 1}
	p.Steps[count-1] = api.Step{Kind: api.XOut}
	return p
}

// all is a program that clears as many registers as it has, and lets the last
// ones come out.
func all(regs, outs int) api.Program {
	p := api.Program{Regs: regs, Outs: outs}
	for register := range regs {
		p.Steps = append(p.Steps, api.Step{Kind: api.XClear, D: register})
	}
	for place := range outs {
		p.Steps = append(p.Steps, api.Step{Kind: api.XOut, D: place, S: regs - 1 - place%regs})
	}
	return p
}

// everyProgram does something to programs and blocks of all kinds over which
// their steps can be done.
func everyProgram(do func(name string, p api.Program, handed [][]byte)) {
	do("nothing", api.Program{}, nil)
	do("nothing of something", api.Program{Regs: 256}, blocks(70, 3))
	do("all registers", all(256, 64), blocks(1, 3))
	do("65536 steps", full(65536), nil)
	for _, length := range []int{255, 256, 4097, 65536} {
		do(fmt.Sprint("long blocks ", length), seeded(length).program(5, 5, 3, 20), blocks(3, length))
	}
	for seed := range 1500 {
		s := seeded(seed)
		count := s.below(5)
		do(fmt.Sprint("seed ", seed), s.program(s.below(6), s.below(6), count, s.below(2+seed/50)), blocks(count, s.below(5)))
	}
	for seed := range 60 {
		s := seeded(seed)
		count := s.below(300)
		do(fmt.Sprint("great seed ", seed), s.program(1+s.below(256), s.below(65), count, s.below(2000)), blocks(count, s.below(50)))
	}
}

// copiedProgram is one of the same steps that shares nothing with it.
func copiedProgram(p api.Program) api.Program {
	p.Steps = slices.Clone(p.Steps)
	return p
}
