package regs_test

import (
	"math"
	"slices"
	"testing"

	"recoup/api"
	"recoup/regs"
)

// P23.3

// sameIs tells where Same answers otherwise, of the two either way round.
func sameIs(t *testing.T, name string, a, b api.Program, want bool) {
	t.Helper()
	if regs.Same(a, b) != want || regs.Same(b, a) != want {
		t.Errorf("%s: Same is not %v of %.300s and %.300s", name, want, told(a), told(b))
	}
}

func TestSameOfOneProgram(t *testing.T) {
	everyProgram(func(name string, p api.Program, _ [][]byte) {
		sameIs(t, name, p, p, true)
		sameIs(t, name, p, copiedProgram(p), true)
	})
}

// Each thing of a program makes another one of it, whether it can be done or
// not, whether its step's Kind names it or not.
func TestSameOfOneThingChanged(t *testing.T) {
	base := api.Program{Steps: steps("load 0 0; clear 1; mac 1 0 3; out 0 1; out 1 0"), Regs: 2, Outs: 2, Reads: 1}
	changed := func(change func(p *api.Program)) {
		t.Helper()
		p := copiedProgram(base)
		change(&p)
		sameIs(t, "one thing changed", p, base, false)
		sameIs(t, "one thing changed", p, api.Program{}, false)
		sameIs(t, "one thing changed", p, copiedProgram(p), true)
	}
	for i, step := range base.Steps {
		for _, n := range append(edges(), counted(-3, 6)...) {
			if n != step.D {
				changed(func(p *api.Program) { p.Steps[i].D = n })
			}
			if n != step.S {
				changed(func(p *api.Program) { p.Steps[i].S = n })
			}
			if byte(n) != step.C {
				changed(func(p *api.Program) { p.Steps[i].C = byte(n) })
			}
			if api.StepKind(n) != step.Kind {
				changed(func(p *api.Program) { p.Steps[i].Kind = api.StepKind(n) })
			}
		}
		changed(func(p *api.Program) { p.Steps = slices.Delete(p.Steps, i, i+1) })
		changed(func(p *api.Program) { p.Steps = slices.Insert(p.Steps, i, api.Step{}) })
	}
	for _, n := range edges() {
		changed(func(p *api.Program) { p.Regs = n })
		changed(func(p *api.Program) { p.Outs = n })
	}
	for bit := range 64 {
		changed(func(p *api.Program) { p.Reads ^= 1 << bit })
	}
	changed(func(p *api.Program) { p.Reads = math.MaxUint64 })
	changed(func(p *api.Program) { p.Steps = p.Steps[:4] })
	changed(func(p *api.Program) { p.Steps = p.Steps[1:] })
	changed(func(p *api.Program) { p.Steps = nil })
	changed(func(p *api.Program) { p.Steps = append(p.Steps, api.Step{}) })
	changed(func(p *api.Program) { slices.Reverse(p.Steps) })
	changed(func(p *api.Program) { p.Steps[3], p.Steps[4] = p.Steps[4], p.Steps[3] })
}

// Two are the same just if they are told alike.
func TestSameOfTwo(t *testing.T) {
	var list []api.Program
	for seed := range 300 {
		s := seeded(seed)
		p := s.program(s.below(2), s.below(2), s.below(2), s.below(3))
		p.Reads &= 1
		list = append(list, p, must(regs.Give(s.flow(2, 2, 2, 2))))
	}
	same := 0
	for _, p := range list {
		for _, q := range list {
			want := told(p) == told(q)
			sameIs(t, "any two", p, q, want)
			if want {
				same++
			}
		}
	}
	if same < len(list)+200 || same > len(list)*len(list)/2 {
		t.Errorf("%d of %d pairs are the same", same, len(list)*len(list))
	}
}
