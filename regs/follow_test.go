package regs_test

import (
	"math/bits"
	"slices"
	"testing"

	"recoup/api"
	"recoup/flow"
	"recoup/regs"
)

// P23.4

// everyGiven goes through the flows within the limits, and their programs.
func everyGiven(t *testing.T, do func(name string, f api.Flow, p api.Program)) {
	t.Helper()
	count := 0
	everyFlow(func(name string, f api.Flow) {
		p, e := regs.Give(f)
		if e == api.OK {
			count++
			do(name, f, p)
		} else if e != api.ErrLimit {
			t.Errorf("%s: Give = %v", name, e)
		}
	})
	if count < 2000 {
		t.Errorf("%d flows are within the limits", count)
	}
}

func TestRunOfGiveIsRunOfTheFlow(t *testing.T) {
	everyGiven(t, func(name string, f api.Flow, p api.Program) {
		for _, length := range []int{0, 1, 4} {
			handed := blocks(max(1, least(f)), length)
			want := slowRun(f, handed, length)
			runIs(t, name, p, handed, want)
			if got := must(flow.Run(f, handed)); !sameBlocks(got, want) {
				t.Errorf("%s: flow.Run = %v, want %v", name, got, want)
			}
		}
	})
}

// It is enough that the blocks are there that are loaded: those behind them are
// not asked for, and what the others have is of no moment.
func TestRunOfGiveNeedsWhatIsLoadedAlone(t *testing.T) {
	less, unlike := 0, 0
	everyGiven(t, func(name string, f api.Flow, p api.Program) {
		handed := blocks(least(f), 3)
		want := slowRun(f, handed, 3)
		count := bits.Len64(uint64(p.Reads))
		if count < least(f) {
			less++
		}
		few := handed[:count]
		for i := range few {
			if p.Reads>>i&1 == 0 {
				unlike++
				few[i] = []byte{1, 2, 3}
			}
		}
		if count == 0 {
			want = slices.Repeat([][]byte{nil}, p.Outs)
		}
		runIs(t, name, p, few, want)
		for fewer := range count {
			runFails(t, name, p, handed[:fewer], api.ErrArg)
		}
	})
	if less < 100 || unlike < 1000 {
		t.Errorf("%d programs need fewer blocks than their flows, %d blocks are not looked at", less, unlike)
	}
}

func TestEachBlockIsLoadedOnce(t *testing.T) {
	everyGiven(t, func(name string, f api.Flow, p api.Program) {
		var loaded []int
		for _, step := range p.Steps {
			if step.Kind == api.XLoad {
				loaded = append(loaded, step.S)
			}
		}
		slices.Sort(loaded)
		if want := must(flow.Trim(f)).Inputs; !slices.Equal(loaded, want) || !slices.Equal(toldSet(p.Reads), want) {
			t.Errorf("%s: of %v there are loaded %v, read %v", name, want, loaded, toldSet(p.Reads))
		}
	})
}

func TestRegistersAreNoMoreThanValues(t *testing.T) {
	less := 0
	everyGiven(t, func(name string, f api.Flow, p api.Program) {
		if p.Regs > len(f.Inputs)+len(f.Nodes) {
			t.Errorf("%s: %d registers for %d values", name, p.Regs, len(f.Inputs)+len(f.Nodes))
		}
		if trimmed := must(flow.Trim(f)); p.Regs < len(trimmed.Inputs)+len(trimmed.Nodes) {
			less++
		}
	})
	if less < 500 {
		t.Errorf("%d programs have fewer registers than values", less)
	}
}

// What is not hung on is of no moment.
func TestGiveOfATrimmedFlowIsTheSame(t *testing.T) {
	everyGiven(t, func(name string, f api.Flow, p api.Program) {
		giveIs(t, name, must(flow.Trim(f)), p)
	})
}

// Every field that a step's Kind doesn't name is 0.
func TestStepsHaveNothingElse(t *testing.T) {
	everyGiven(t, func(name string, f api.Flow, p api.Program) {
		for _, step := range p.Steps {
			if step.Kind == api.XClear && step.S != 0 || step.Kind != api.XMac && step.C != 0 {
				t.Errorf("%s: a step %s", name, toldStep(step))
			}
		}
		if p.Outs != len(f.Outs) {
			t.Errorf("%s: Outs %d, want %d", name, p.Outs, len(f.Outs))
		}
	})
}
