package regs_test

import (
	"slices"
	"testing"

	"recoup/api"
	"recoup/regs"
)

// P23.2

// runIs tells where Run answers other blocks.
func runIs(t *testing.T, name string, p api.Program, handed, want [][]byte) {
	t.Helper()
	if got, e := regs.Run(p, handed); !sameBlocks(got, want) || e != api.OK {
		t.Errorf("%s: Run = %v, %v, want %v, of %.300s", name, got, e, want, told(p))
	}
}

// runFails tells where Run doesn't answer this error with nothing beside it.
func runFails(t *testing.T, name string, p api.Program, handed [][]byte, want api.Errno) {
	t.Helper()
	if got, e := regs.Run(p, handed); len(got) != 0 || e != want {
		t.Errorf("%s: Run = %v, %v, want %v, of %.300s", name, got, e, want, told(p))
	}
}

func TestRun(t *testing.T) {
	everyProgram(func(name string, p api.Program, handed [][]byte) {
		want, _ := slowDone(p, handed)
		runIs(t, name, p, handed, want)
	})
}

func TestRunAtTheEdges(t *testing.T) {
	for _, c := range []struct {
		name   string
		steps  string
		regs   int
		outs   int
		handed [][]byte
		want   [][]byte
	}{
		{"the example", "load 0 0; load 1 1; clear 2; mac 2 0 1; mac 2 1 2; clear 1; mac 1 0 3; out 0 2; out 1 1", 3, 2, [][]byte{{5}, {6}}, [][]byte{{9}, {15}}},
		{"nothing", "", 0, 0, nil, nil},
		{"nothing, of blocks", "", 0, 0, [][]byte{{1}, {2}}, nil},
		{"registers of which nothing comes out", "clear 255; load 0 0", 256, 0, [][]byte{{1}}, nil},
		{"noughts", "clear 0; out 0 0", 1, 1, [][]byte{{1, 2, 3}}, [][]byte{{0, 0, 0}}},
		{"noughts, no blocks", "clear 0; out 0 0", 1, 1, nil, [][]byte{{}}},
		{"blocks without bytes", "load 0 1; mac 0 0 3; out 0 0", 1, 1, [][]byte{nil, {}}, [][]byte{nil}},
		{"a block", "load 0 1; out 0 0", 1, 1, [][]byte{{1, 2}, {3, 4}}, [][]byte{{3, 4}}},
		{"a block and itself", "load 0 0; mac 0 0 1; out 0 0", 1, 1, [][]byte{{7, 8}}, [][]byte{{0, 0}}},
		{"a block and twice itself", "load 0 0; mac 0 0 2; out 0 0", 1, 1, [][]byte{{1, 128}}, [][]byte{{3, 128 ^ 29}}},
		{"nought times a block", "load 0 0; load 1 1; mac 0 1 0; out 0 0", 2, 1, [][]byte{{7}, {8}}, [][]byte{{7}}},
		{"a block twice", "load 0 0; load 1 0; mac 0 1 3; out 0 0; out 1 1", 2, 2, [][]byte{{7}}, [][]byte{{14}, {7}}},
		{"cleared behind", "load 0 0; out 1 0; clear 0; out 0 0", 1, 2, [][]byte{{7}}, [][]byte{{0}, {7}}},
		{"loaded over", "load 0 0; out 0 0; load 0 1; out 1 0", 1, 2, [][]byte{{7}, {8}}, [][]byte{{7}, {8}}},
		{"changed behind", "load 0 0; load 1 1; out 0 0; mac 0 1 1; out 1 0", 2, 2, [][]byte{{7}, {8}}, [][]byte{{7}, {15}}},
		{"noughts twice, one changed", "clear 0; clear 1; load 2 0; mac 0 2 1; out 0 1; out 1 0", 3, 2, [][]byte{{7}}, [][]byte{{0}, {7}}},
		{"one changed behind the other took it", "load 0 0; clear 1; mac 1 0 1; mac 0 0 1; out 0 1; out 1 0", 2, 2, [][]byte{{9}}, [][]byte{{9}, {0}}},
		{"the last of many blocks", "load 0 299; out 0 0", 1, 1, append(slices.Repeat([][]byte{{1}}, 299), []byte{2}), [][]byte{{2}}},
	} {
		runIs(t, c.name, api.Program{Steps: steps(c.steps), Regs: c.regs, Outs: c.outs}, c.handed, c.want)
	}
}

// As many registers, places and steps as there may be, and one more or less.
func TestRunAtTheLimits(t *testing.T) {
	handed := blocks(2, 3)
	noughts := func(outs int) [][]byte { return slices.Repeat([][]byte{{0, 0, 0}}, outs) }
	for _, c := range []struct {
		name string
		p    api.Program
		want api.Errno
	}{
		{"256 registers", all(256, 3), api.OK},
		{"257 registers", all(257, 3), api.ErrArg},
		{"257 registers, of which one is there", api.Program{Steps: all(1, 1).Steps, Regs: 257, Outs: 1}, api.ErrArg},
		{"256 registers, of which one is there", api.Program{Steps: all(1, 1).Steps, Regs: 256, Outs: 1}, api.OK},
		{"257 registers and nothing else", api.Program{Regs: 257}, api.ErrArg},
		{"256 registers and nothing else", api.Program{Regs: 256}, api.OK},
		{"no registers and nothing else", api.Program{}, api.OK},
		{"-1 registers and nothing else", api.Program{Regs: -1}, api.ErrArg},
		{"no registers, a step", api.Program{Steps: steps("clear 0")}, api.ErrArg},
		{"64 places", all(64, 64), api.OK},
		{"65 places", all(64, 65), api.ErrArg},
		{"65 places with nothing", api.Program{Outs: 65}, api.ErrArg},
		{"64 places with nothing", api.Program{Outs: 64}, api.ErrArg},
		{"63 of 64 places", api.Program{Steps: all(64, 63).Steps, Regs: 64, Outs: 64}, api.ErrArg},
		{"64 of 63 places", api.Program{Steps: all(64, 64).Steps, Regs: 64, Outs: 63}, api.ErrArg},
		{"-1 places", api.Program{Outs: -1}, api.ErrArg},
		{"65535 steps", full(65535), api.OK},
		{"65536 steps", full(65536), api.OK},
		{"65537 steps", full(65537), api.ErrArg},
		{"65537 steps of no kind", api.Program{Steps: make([]api.Step, 65537)}, api.ErrArg},
	} {
		if c.want == api.OK {
			runIs(t, c.name, c.p, handed, noughts(c.p.Outs))
		} else {
			runFails(t, c.name, c.p, handed, c.want)
		}
	}
}

// Reads and the fields that a step's Kind doesn't name are not looked at.
func TestRunLooksAtNothingElse(t *testing.T) {
	p := api.Program{Steps: steps("load 0 0; load 1 1; clear 2; mac 2 0 1; mac 2 1 2; out 0 2"), Regs: 3, Outs: 1}
	handed, want := [][]byte{{5}, {6}}, [][]byte{{9}}
	for _, reads := range []api.Set{0, 1, 3, 4, 1 << 63, ^api.Set(0)} {
		p.Reads = reads
		runIs(t, "another Reads", p, handed, want)
	}
	for i, step := range p.Steps {
		for _, n := range append(edges(), 1) {
			q := copiedProgram(p)
			if step.Kind != api.XMac {
				q.Steps[i].C = byte(n)
				runIs(t, "another C", q, handed, want)
			}
			if step.Kind == api.XClear {
				q.Steps[i].S = n
				runIs(t, "another S", q, handed, want)
			}
		}
	}
}
