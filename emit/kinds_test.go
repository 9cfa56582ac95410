package emit_test

import (
	"testing"

	"recoup/api"
)

// kinds counts of how many programs something holds.
type kinds map[string]int

func (k kinds) count(what string, holds bool) {
	if holds {
		k[what]++
	}
}

// isEnough tells what holds of too few.
func (k kinds) isEnough(t *testing.T, list ...string) {
	t.Helper()
	for _, what := range list {
		if k[what] < 20 {
			t.Errorf("%s: of %d", what, k[what])
		}
	}
}

// The programs that the other tests go through are of all kinds.
func TestProgramsOfAllKindsAreGoneThrough(t *testing.T) {
	found := kinds{}
	everyProgram(func(name string, p api.Program) {
		if !slowCan(p) {
			t.Errorf("%s can't be written", name)
		}
		reads := len(toldSet(p.Reads))
		found.count("Regs 0", p.Regs == 0)
		found.count("Regs 256", p.Regs == 256)
		found.count("Regs of one byte", p.Regs > 0 && p.Regs < 128)
		found.count("Regs of two bytes", p.Regs > 127 && p.Regs < 256)
		found.count("Outs 0", p.Outs == 0)
		found.count("Outs 64", p.Outs == 64)
		found.count("Outs between", p.Outs > 0 && p.Outs < 64)
		found.count("Reads of none", reads == 0)
		found.count("Reads of one", reads == 1)
		found.count("Reads of some", reads > 1 && reads < 64)
		found.count("Reads of all", reads == 64)
		found.count("no steps", len(p.Steps) == 0)
		found.count("few steps", len(p.Steps) > 0 && len(p.Steps) < 128)
		found.count("many steps", len(p.Steps) > 127)
		countSteps(found, p)
	})
	found.isEnough(t, "Regs 0", "Regs 256", "Regs of one byte", "Regs of two bytes", "Outs 0", "Outs 64", "Outs between",
		"Reads of none", "Reads of one", "Reads of some", "Reads of all", "no steps", "few steps", "many steps",
		"clear", "load", "mac", "out", "D 0", "D 255", "S 0", "S 255", "C 0", "C 255", "D of one, two, three digits")
}

func countSteps(found kinds, p api.Program) {
	digits := map[int]bool{}
	for _, step := range p.Steps {
		found.count([]string{"clear", "load", "mac", "out"}[step.Kind-1], true)
		found.count("D 0", step.D == 0)
		found.count("D 255", step.D == 255)
		found.count("S 0", step.S == 0 && step.Kind > 1)
		found.count("S 255", step.S == 255)
		found.count("C 0", step.C == 0 && step.Kind == 3)
		found.count("C 255", step.C == 255)
		digits[min(step.D/10, 1)+min(step.D/100, 1)] = true
	}
	found.count("D of one, two, three digits", len(digits) == 3)
}
