package regs_test

import (
	"slices"
	"testing"

	"recoup/api"
)

// kinds counts of how many flows or programs something holds.
type kinds map[string]int

func (k kinds) count(what string, holds bool) {
	if holds {
		k[what]++
	}
}

// isEnough tells what holds of too few.
func (k kinds) isEnough(t *testing.T, list ...string) {
	t.Helper()
	for _, what := range list {
		if k[what] < 20 {
			t.Errorf("%s: of %d", what, k[what])
		}
	}
}

// The flows that the other tests go through are of all kinds, by what the models
// tell of them.
func TestFlowsOfAllKindsAreGoneThrough(t *testing.T) {
	found := kinds{}
	everyFlow(func(name string, f api.Flow) {
		if !slowMay(f) {
			t.Errorf("%s may not be", name)
		}
		isInput := func(value int) bool { return value < len(f.Inputs) }
		hung, values := slowHung(f), len(f.Inputs)+len(f.Nodes)
		found.count("no inputs", len(f.Inputs) == 0)
		found.count("no nodes", len(f.Nodes) == 0)
		found.count("no outs", len(f.Outs) == 0)
		found.count("all hung on", len(hung) == values)
		found.count("not all hung on", len(hung) < values)
		found.count("an out twice", len(slices.Compact(slices.Sorted(slices.Values(f.Outs)))) < len(f.Outs))
		found.count("an input comes out", slices.ContainsFunc(f.Outs, isInput))
		found.count("a node without terms", slices.ContainsFunc(f.Nodes, func(terms []api.Term) bool { return len(terms) == 0 }))
		countUses(found, f, hung)
		countRegisters(found, f)
	})
	found.isEnough(t, "no inputs", "no nodes", "no outs", "all hung on", "not all hung on", "an out twice", "an input comes out",
		"a node without terms", "a node of nodes", "an input for several nodes", "an input for several nodes and the end",
		"an input for the end alone", "a node for nodes and the end", "used by one not hung on, last",
		"a register of several values", "a load in a gap", "a load behind outs", "more than 10 registers")
}

// countUses looks at what uses the values on which Outs hang.
func countUses(found kinds, f api.Flow, hung map[int]bool) {
	uses, kept := slowUses(f), slowUses(slowTrim(f))
	for value := range hung {
		last := uses[value][len(uses[value])-1]
		several := len(slices.Compact(slices.Clone(uses[value]))) > 2
		isInput := value < len(f.Inputs)
		found.count("an input for several nodes", isInput && several && last < len(f.Nodes))
		found.count("an input for several nodes and the end", isInput && several && last == len(f.Nodes))
		found.count("an input for the end alone", isInput && uses[value][0] == len(f.Nodes))
		found.count("a node for nodes and the end", !isInput && several && last == len(f.Nodes))
		found.count("a node of nodes", !isInput && uses[value][0] < len(f.Nodes))
		found.count("used by one not hung on, last", last < len(f.Nodes) && !hung[len(f.Inputs)+last])
	}
	found.count("less uses", len(kept) < len(uses))
}

// countRegisters looks at the program.
func countRegisters(found kinds, f api.Flow) {
	p := slowGive(f)
	given := map[int]int{}
	var gap, behind, out bool
	for _, step := range p.Steps {
		if step.Kind == api.XLoad || step.Kind == api.XClear {
			given[step.D]++
			gap = gap || step.Kind == api.XLoad && given[step.D] > 1
		}
		out = out || step.Kind == api.XOut
		behind = behind || out && step.Kind == api.XLoad
	}
	found.count("a load in a gap", gap)
	found.count("a load behind outs", behind)
	found.count("a register of several values", len(given) > 0 && given[0] > 1)
	found.count("more than 10 registers", p.Regs > 10)
}

// So are the programs.
func TestProgramsOfAllKindsAreGoneThrough(t *testing.T) {
	found := kinds{}
	everyProgram(func(name string, p api.Program, handed [][]byte) {
		if outs, e := slowDone(p, handed); len(outs) != p.Outs || e != api.OK {
			t.Errorf("%s can't be done: %v", name, e)
		}
		found.count("no registers", p.Regs == 0)
		found.count("no outs", p.Outs == 0)
		found.count("no blocks", len(handed) == 0 && len(p.Steps) > 0)
		found.count("blocks without bytes", len(handed) > 0 && len(handed[0]) == 0)
		found.count("many blocks", len(handed) > 64)
		countSteps(found, p)
	})
	found.isEnough(t, "no registers", "no outs", "no blocks", "blocks without bytes", "many blocks", "cleared anew", "loaded over", "a block loaded twice",
		"twice itself", "the factor 0", "the factor 1", "came out, changed, came out", "places out of order",
		"a clear with anything else", "a load with anything else", "an out with anything else", "another Reads", "many steps", "many registers")
}

// countSteps looks at the steps of a program.
func countSteps(found kinds, p api.Program) {
	held, cameOut, changed := map[int]bool{}, map[int]bool{}, map[int]bool{}
	loaded := map[int]int{}
	var reads api.Set
	last := -1
	for _, step := range p.Steps {
		switch step.Kind {
		case api.XOut:
			found.count("came out, changed, came out", changed[step.S])
			found.count("places out of order", step.D < last)
			found.count("an out with anything else", step.C != 0)
			cameOut[step.S], last = true, step.D
			continue
		case api.XClear:
			found.count("cleared anew", held[step.D])
			found.count("a clear with anything else", step.S != 0 && step.C != 0)
		case api.XLoad:
			loaded[step.S]++
			reads |= 1 << step.S
			found.count("loaded over", held[step.D])
			found.count("a block loaded twice", loaded[step.S] == 2)
			found.count("a load with anything else", step.C != 0)
		default:
			found.count("twice itself", step.D == step.S && step.C > 1)
			found.count("the factor 0", step.C == 0)
			found.count("the factor 1", step.C == 1)
		}
		held[step.D] = true
		changed[step.D] = changed[step.D] || cameOut[step.D]
	}
	found.count("another Reads", reads != p.Reads)
	found.count("many steps", len(p.Steps) > 500)
	found.count("many registers", len(held) > 64)
}
