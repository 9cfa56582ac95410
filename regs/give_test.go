package regs_test

import (
	"testing"

	"recoup/api"
	"recoup/regs"
)

// P23.1

// giveIs tells where Give answers another program.
func giveIs(t *testing.T, name string, f api.Flow, want api.Program) {
	t.Helper()
	if got, e := regs.Give(f); told(got) != told(want) || e != api.OK {
		t.Errorf("%s: Give = %.1000s, %v, want %.1000s, of %.300s", name, told(got), e, told(want), written(f))
	}
}

// giveFails tells where Give doesn't answer this error with nothing beside it.
func giveFails(t *testing.T, name string, f api.Flow, want api.Errno) {
	t.Helper()
	if got, e := regs.Give(f); told(got) != told(api.Program{}) || e != want {
		t.Errorf("%s: Give = %.300s, %v, want %v, of %.300s", name, told(got), e, want, written(f))
	}
}

// isWithin asks whether a program has no more registers and steps than there may
// be.
func isWithin(p api.Program) bool {
	return p.Regs <= 256 && len(p.Steps) <= 65536
}

func TestGive(t *testing.T) {
	within, beyond := 0, 0
	everyFlow(func(name string, f api.Flow) {
		if want := slowGive(f); isWithin(want) {
			within++
			giveIs(t, name, f, want)
		} else {
			beyond++
			giveFails(t, name, f, api.ErrLimit)
		}
	})
	if within < 2000 || beyond < 7 {
		t.Errorf("%d flows are within the limits, %d beyond", within, beyond)
	}
}

func TestGiveAtTheEdges(t *testing.T) {
	reads := func(list ...int) (set api.Set) {
		for _, number := range list {
			set |= 1 << number
		}
		return set
	}
	for _, c := range []struct {
		name  string
		f     api.Flow
		steps string
		regs  int
		reads api.Set
	}{
		{"the example", example(), "load 0 0; load 1 1; clear 2; mac 2 0 1; mac 2 1 2; clear 1; mac 1 0 3; out 0 2; out 1 1", 3, reads(0, 1)},
		{"nothing", api.Flow{}, "", 0, 0},
		{"inputs that nobody uses", api.Flow{Inputs: []int{3, 4}}, "", 0, 0},
		{"nodes that nobody uses", api.Flow{Inputs: []int{3, 4}, Nodes: nodes(node(0, 1), node(1, 2))}, "", 0, 0},
		{"an input", api.Flow{Inputs: []int{63}, Outs: []int{0}}, "load 0 63; out 0 0", 1, reads(63)},
		{"an input, twice", api.Flow{Inputs: []int{3, 9}, Outs: []int{1, 1}}, "load 0 9; out 0 0; out 1 0", 1, reads(9)},
		{"inputs, one loaded behind the other came out", api.Flow{Inputs: []int{3, 9}, Outs: []int{1, 0, 1}}, "load 0 9; out 0 0; load 1 3; out 1 1; out 2 0", 2, reads(3, 9)},
		{"a node without terms", api.Flow{Nodes: nodes(nil), Outs: []int{0}}, "clear 0; out 0 0", 1, 0},
		{"nodes without terms", api.Flow{Nodes: nodes(nil, nil, nil), Outs: []int{2, 0}}, "clear 0; clear 1; out 0 1; out 1 0", 2, 0},
		{"one upon the other", api.Flow{Inputs: []int{5}, Nodes: nodes(node(0, 2), node(1, 3), node(2, 4)), Outs: []int{3}},
			"load 0 5; clear 1; mac 1 0 2; clear 0; mac 0 1 3; clear 1; mac 1 0 4; out 0 1", 2, reads(5)},
		{"an input held for the end", api.Flow{Inputs: []int{5}, Nodes: nodes(node(0, 2), node(1, 3)), Outs: []int{0, 2}},
			"load 0 5; clear 1; mac 1 0 2; clear 2; mac 2 1 3; out 0 0; out 1 2", 3, reads(5)},
		{"an input loaded at the end, in a gap", api.Flow{Inputs: []int{5, 6}, Nodes: nodes(node(0, 2)), Outs: []int{2, 1}},
			"load 0 5; clear 1; mac 1 0 2; out 0 1; load 0 6; out 1 0", 2, reads(5, 6)},
		{"loads ahead of what is cleared", api.Flow{Inputs: []int{1, 2, 3}, Nodes: nodes(node(1, 7), node(0, 1, 1, 2, 2, 3, 3, 4)), Outs: []int{4}},
			"load 0 2; clear 1; mac 1 0 7; load 2 1; load 3 3; clear 4; mac 4 2 1; mac 4 0 2; mac 4 3 3; mac 4 1 4; out 0 4", 5, reads(1, 2, 3)},
		{"nodes that nobody uses hold nothing", api.Flow{Inputs: []int{0, 2}, Nodes: nodes(node(0, 1), node(1, 5), node(0, 9), node(2, 8)), Outs: []int{5}},
			"load 0 0; clear 1; mac 1 0 1; clear 0; mac 0 1 8; out 0 0", 2, reads(0)},
		{"a node's register becomes free behind it alone", api.Flow{Inputs: []int{0}, Nodes: nodes(node(0, 2), node(0, 3, 1, 4), node(2, 5)), Outs: []int{3}},
			"load 0 0; clear 1; mac 1 0 2; clear 2; mac 2 0 3; mac 2 1 4; clear 0; mac 0 2 5; out 0 0", 3, reads(0)},
		{"the least free one of two", api.Flow{Inputs: []int{1, 2, 3}, Nodes: nodes(node(0, 1, 1, 1, 2, 1), node(1, 2), node(1, 3, 4, 9)), Outs: []int{3, 5}},
			"load 0 1; load 1 2; load 2 3; clear 3; mac 3 0 1; mac 3 1 1; mac 3 2 1; clear 0; mac 0 1 2; clear 2; mac 2 1 3; mac 2 0 9; out 0 3; out 1 2", 4, reads(1, 2, 3)},
	} {
		giveIs(t, c.name, c.f, api.Program{Steps: steps(c.steps), Regs: c.regs, Outs: len(c.f.Outs), Reads: c.reads})
	}
}

// Exactly as many registers, or steps, as there may be, and one more.
func TestGiveAtTheLimits(t *testing.T) {
	for _, c := range []struct {
		name  string
		f     api.Flow
		regs  int
		steps int
	}{
		{"255 registers", gathered(0, 254), 255, 0},
		{"256 registers", gathered(0, 255), 256, 0},
		{"257 registers", gathered(0, 256), 257, 0},
		{"256 registers, 64 of inputs", gathered(64, 191), 256, 0},
		{"257 registers, 64 of inputs", gathered(64, 192), 257, 0},
		{"256 registers, the last one cleared", dense(64, 192), 256, 0},
		{"257 registers, the last one cleared", dense(64, 193), 257, 0},
		{"65535 steps", windowed(15, 40, 63), 17, 65535},
		{"65536 steps", windowed(15, 40, 64), 17, 65536},
		{"65537 steps", windowed(15, 41, 64), 17, 65537},
		{"65537 steps, the last of few outs", windowed(15, 104, 1), 17, 65537},
		{"65536 steps, the last of few outs", windowed(15, 103, 1), 17, 65536},
	} {
		slow := slowGive(c.f)
		if slow.Regs != c.regs || c.steps > 0 && len(slow.Steps) != c.steps {
			t.Errorf("%s: %d registers, %d steps", c.name, slow.Regs, len(slow.Steps))
		}
		if c.regs > api.MaxRegs || c.steps > api.MaxSteps {
			giveFails(t, c.name, c.f, api.ErrLimit)
		} else {
			giveIs(t, c.name, c.f, slow)
		}
	}
}

// What Outs don't hang on takes no registers and no steps.
func TestGiveOfWhatIsTrimmed(t *testing.T) {
	for _, k := range great() {
		f := copied(k.f)
		f.Outs = nil
		giveIs(t, k.name, f, api.Program{})
		if len(f.Inputs) > 0 {
			f.Outs = []int{0}
			giveIs(t, k.name, f, api.Program{Steps: []api.Step{{Kind: api.XLoad, S: f.Inputs[0]}, {Kind: api.XOut}}, Regs: 1, Outs: 1, Reads: 1 << f.Inputs[0]})
		}
	}
}
