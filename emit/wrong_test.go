package emit_test

import (
	"fmt"
	"slices"
	"testing"

	"recoup/api"
	"recoup/emit"
)

func isRefused(t *testing.T, name string, p api.Program) {
	t.Helper()
	if b, e := emit.Write(p); len(b) != 0 || e != api.ErrArg {
		t.Errorf("%s: Write of %.300s = %.100x, %v", name, told(p), b, e)
	}
	if s, e := emit.Text(p); s != "" || e != api.ErrArg {
		t.Errorf("%s: Text of %.300s = %.300q, %v", name, told(p), s, e)
	}
}

// cannot are programs that can't be written, each by one thing alone.
func cannot() []kind {
	base := api.Program{Steps: steps("clear 1; load 2 3; mac 4 5 6; out 7 8; clear 9"), Regs: 5, Outs: 6, Reads: 77}
	var made []kind
	turned := func(name string, turn func(p *api.Program)) {
		p := copied(base)
		turn(&p)
		made = append(made, kind{name, p})
	}
	for _, n := range edges() {
		if n < 0 || n > 256 {
			turned(fmt.Sprint("Regs ", n), func(p *api.Program) { p.Regs = n })
			turned(fmt.Sprint("Regs alone ", n), func(p *api.Program) { *p = api.Program{Regs: n} })
		}
	}
	for _, n := range append(edges(), 65, 66, 127, 128, 255, 256) {
		if n < 0 || n > 64 {
			turned(fmt.Sprint("Outs ", n), func(p *api.Program) { p.Outs = n })
			turned(fmt.Sprint("Outs alone ", n), func(p *api.Program) { *p = api.Program{Outs: n} })
		}
	}
	for i, step := range base.Steps {
		for kind := range 256 {
			if kind == 0 || kind > 4 {
				turned(fmt.Sprint("a kind ", kind), func(p *api.Program) { p.Steps[i].Kind = api.StepKind(kind) })
				turned(fmt.Sprint("a kind and nothing ", kind), func(p *api.Program) { p.Steps[i] = api.Step{Kind: api.StepKind(kind)} })
			}
		}
		for _, n := range append(edges(), 256) {
			turned(fmt.Sprint("D ", n), func(p *api.Program) { p.Steps[i].D = n })
			turned(fmt.Sprint("S ", n), func(p *api.Program) { p.Steps[i].S = n })
		}
		for _, n := range []int{1, 2, 100, 128, 255} {
			if step.Kind != api.XMac {
				turned("C is not named", func(p *api.Program) { p.Steps[i].C = byte(n) })
			}
			if step.Kind == api.XClear {
				turned("S is not named", func(p *api.Program) { p.Steps[i].S = n })
				turned("S and C are not named", func(p *api.Program) { p.Steps[i].S, p.Steps[i].C = n, byte(n) })
			}
		}
		turned("a step that is none", func(p *api.Program) { p.Steps = slices.Insert(p.Steps, i, api.Step{}) })
	}
	turned("a last step that is none", func(p *api.Program) { p.Steps = append(p.Steps, api.Step{}) })
	turned("a mac as a clear", func(p *api.Program) { p.Steps[2].Kind = api.XClear })
	turned("a mac as a load", func(p *api.Program) { p.Steps[2].Kind = api.XLoad })
	turned("an out as a clear", func(p *api.Program) { p.Steps[3].Kind = api.XClear })
	return append(made,
		kind{"one step too many", long(65537)},
		kind{"twice as many steps", long(2 * 65536)},
		kind{"one step too many, of which one is none", api.Program{Steps: append(long(65536).Steps, api.Step{})}},
		kind{"the last one of as many as may be", api.Program{Steps: append(long(65535).Steps, api.Step{Kind: 1, S: 1})}},
		kind{"the chapter's", api.Program{Steps: []api.Step{{Kind: api.XClear, S: 1}}}})
}

func TestProgramsThatCanNotBeWritten(t *testing.T) {
	for _, k := range cannot() {
		if slowCan(k.p) {
			t.Errorf("%s can be written: %.300s", k.name, told(k.p))
		}
		isRefused(t, k.name, k.p)
	}
}

// stray is a program of which most fields are as they must be, and some are not.
func (s *source) stray() api.Program {
	p := s.program(s.below(4))
	for range s.below(3) {
		wild := one(s, append(edges(), 256, 65, 64, 255, 0, 1))
		switch s.below(8) {
		case 0:
			p.Regs = wild
		case 1:
			p.Outs = wild
		default:
			if len(p.Steps) == 0 {
				continue
			}
			step := &p.Steps[s.below(len(p.Steps))]
			switch s.below(4) {
			case 0:
				step.D = wild
			case 1:
				step.S = wild
			case 2:
				step.C = byte(wild)
			default:
				step.Kind = api.StepKind(s.below(7))
			}
		}
	}
	return p
}

func TestProgramsOfAnythingAtAll(t *testing.T) {
	found := kinds{}
	for seed := range 20000 {
		p := seeded(seed).stray()
		name := fmt.Sprint("seed ", seed)
		found.count("can", slowCan(p))
		found.count("can't", !slowCan(p))
		if !slowCan(p) {
			isRefused(t, name, p)
			continue
		}
		writeIs(t, name, p, slowWrite(p))
		textIs(t, name, p, slowText(p))
	}
	if found["can"] < 3000 || found["can't"] < 3000 {
		t.Errorf("%v", found)
	}
}

// What another package takes to be done need not be done to be written: only the
// chapter's own words are asked for.
func TestProgramsThatCanNotBeDoneAreWritten(t *testing.T) {
	for _, k := range []kind{
		{"registers beyond Regs", api.Program{Steps: steps("clear 255; mac 3 200 0; load 7 255; out 200 200")}},
		{"nothing comes out", api.Program{Steps: steps("clear 0"), Regs: 1, Outs: 64}},
		{"nothing is loaded", api.Program{Steps: steps("mac 0 0 0"), Reads: 99}},
		{"one place twice", api.Program{Steps: steps("out 0 0; out 0 0"), Outs: 1}},
	} {
		writeIs(t, k.name, k.p, slowWrite(k.p))
		textIs(t, k.name, k.p, slowText(k.p))
		readIs(t, k.name, slowWrite(k.p), k.p, len(slowWrite(k.p)))
		readTextIs(t, k.name, slowText(k.p), k.p)
	}
}
