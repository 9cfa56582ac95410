package flow_test

import (
	"testing"

	"recoup/api"
	"recoup/flow"
)

// P21.4

// runIs tells where Run does not answer these blocks without an error.
func runIs(t *testing.T, name string, f api.Flow, handed, want [][]byte) {
	t.Helper()
	if outs, e := flow.Run(f, handed); e != api.OK || !sameBlocks(outs, want) {
		t.Errorf("%s: Run of %d blocks = %v, %v, want %v", name, len(handed), outs, e, want)
	}
}

// runFails tells where it does not answer this error and nothing beside it.
func runFails(t *testing.T, name string, f api.Flow, handed [][]byte, want api.Errno) {
	t.Helper()
	if outs, e := flow.Run(f, handed); e != want || len(outs) != 0 {
		t.Errorf("%s: Run of %d blocks = %d blocks, %v, want %v", name, len(handed), len(outs), e, want)
	}
}

// lengths are those of blocks: none, few, about powers of 2.
func lengths() []int {
	return []int{0, 1, 2, 3, 15, 16, 17, 255, 256, 257}
}

// longer ones are about those at which a walk through blocks may be cut.
func longer() []int {
	return []int{511, 512, 513, 1000, 1024, 1025, 2047, 2049, 4095, 4096, 4097, 4100, 8191, 8192, 8193, 12288, 12289, 16385, 32768, 65535, 65536, 65537, 70000}
}

func TestRun(t *testing.T) {
	turn := 0
	everyFlow(func(name string, f api.Flow) {
		for _, count := range []int{least(f), least(f) + 1, 64, 70} {
			turn++
			length := lengths()[turn%len(lengths())]
			if len(f.Nodes) > 100 {
				length %= 4
			}
			handed := blocks(count, length)
			if count == 0 {
				length = 0
			}
			runIs(t, name, f, handed, slowRun(f, handed, length))
		}
	})
}

func TestRunOfBlocksOfEachLength(t *testing.T) {
	for _, k := range small() {
		for _, length := range lengths() {
			handed := blocks(least(k.f)+1, length)
			runIs(t, k.name, k.f, handed, slowRun(k.f, handed, length))
		}
	}
	three := api.Flow{Inputs: []int{0, 2}, Nodes: nodes(node(0, 1, 1, 9), node(0, 3, 2, 1), node(1, 255)), Outs: []int{3, 1, 2, 3}}
	for _, length := range longer() {
		handed := blocks(3, length)
		if outs, e := flow.Run(three, handed); e != api.OK || !sameBlocks(outs, slowRun(three, handed, length)) {
			t.Errorf("Run of blocks of %d bytes: %d blocks, %v", length, len(outs), e)
		}
	}
}

func TestRunAtTheEdges(t *testing.T) {
	nought := api.Flow{Nodes: nodes(nil), Outs: []int{0, 0}}
	for _, c := range []struct {
		name         string
		f            api.Flow
		handed, outs [][]byte
	}{
		{"the example", example(), [][]byte{{5, 6}, {0, 0}, {1, 1}}, [][]byte{{7, 4}, {0, 0}}},
		{"the example, other bytes where none are read", example(), [][]byte{{5, 6}, {9, 9}, {1, 1}, {8, 8}}, [][]byte{{7, 4}, {0, 0}}},
		{"the example, without bytes", example(), [][]byte{{}, nil, {}}, [][]byte{nil, nil}},
		{"no blocks", nought, nil, [][]byte{nil, nil}},
		{"blocks without bytes", nought, [][]byte{nil, {}}, [][]byte{nil, nil}},
		{"blocks that no input names", nought, [][]byte{{1, 2, 3}, {4, 5, 6}}, [][]byte{{0, 0, 0}, {0, 0, 0}}},
		{"one block that no input names", nought, [][]byte{{7}}, [][]byte{{0}, {0}}},
		{"nothing", api.Flow{}, nil, nil},
		{"nothing of a block", api.Flow{}, [][]byte{{1, 2}}, nil},
		{"inputs, but no outs", api.Flow{Inputs: []int{0, 1}}, [][]byte{{1}, {2}}, nil},
		{"an input that comes out twice", api.Flow{Inputs: []int{1}, Outs: []int{0, 0}}, [][]byte{{1, 2}, {3, 4}}, [][]byte{{3, 4}, {3, 4}}},
		{"once and twice", api.Flow{Inputs: []int{0}, Nodes: nodes(node(0, 1), node(0, 2)), Outs: []int{1, 2, 0}}, [][]byte{{1, 128, 255}}, [][]byte{{1, 128, 255}, {2, 29, 227}, {1, 128, 255}}},
		{"a node of a node", api.Flow{Inputs: []int{0}, Nodes: nodes(node(0, 2), node(0, 1, 1, 128)), Outs: []int{2}}, [][]byte{{1, 2}}, [][]byte{{28, 56}}},
		{"what cancels out", api.Flow{Inputs: []int{0}, Nodes: nodes(node(0, 1), node(0, 1, 1, 1)), Outs: []int{2}}, [][]byte{{1, 2, 3}}, [][]byte{{0, 0, 0}}},
		{"inverse factors", api.Flow{Inputs: []int{0}, Nodes: nodes(node(0, 2), node(1, 142)), Outs: []int{2}}, [][]byte{{0, 1, 200}}, [][]byte{{0, 1, 200}}},
	} {
		runIs(t, c.name, c.f, c.handed, c.outs)
	}
}

// A value may be on more ways than could be gone one by one.
func TestRunOfManyNodes(t *testing.T) {
	for _, k := range great() {
		handed := blocks(64, 5)
		runIs(t, k.name, k.f, handed, slowRun(k.f, handed, 5))
	}
	f := dense(64, 1500)
	handed := blocks(64, 3)
	runIs(t, "all terms", f, handed, slowRun(f, handed, 3))
}

func TestRunOfTooFewBlocks(t *testing.T) {
	everyFlow(func(name string, f api.Flow) {
		for count := range least(f) {
			runFails(t, name, f, make([][]byte, count), api.ErrShape)
			runFails(t, name, f, blocks(count, 2), api.ErrShape)
		}
	})
	for count := range 64 {
		runFails(t, "the last input", api.Flow{Inputs: []int{63}}, blocks(count, 1), api.ErrShape)
		runFails(t, "none and the last one", api.Flow{Inputs: []int{0, 63}, Outs: []int{0}}, blocks(count, 1), api.ErrShape)
	}
}

// Blocks that no input names are asked, too.
func TestRunOfBlocksOfTwoLengths(t *testing.T) {
	for _, k := range small() {
		for _, count := range []int{least(k.f), least(k.f) + 2, 64, 80} {
			if count < 2 {
				continue
			}
			for i := range count {
				for _, length := range []int{0, 1, 3, 5, 4100} {
					handed := blocks(count, 4)
					handed[i] = make([]byte, length)
					runFails(t, k.name, k.f, handed, api.ErrShape)
				}
			}
		}
	}
	runFails(t, "without bytes and with one", api.Flow{}, [][]byte{nil, {1}}, api.ErrShape)
	runFails(t, "with one and without", api.Flow{}, [][]byte{{1}, nil}, api.ErrShape)
	runFails(t, "there and back", api.Flow{}, [][]byte{{1}, {2}, {3, 4}, {5}}, api.ErrShape)
}

// ErrArg is told ahead of ErrShape.
func TestRunOfWhatMayNotBe(t *testing.T) {
	for _, f := range mayNotBe() {
		for _, handed := range [][][]byte{nil, blocks(1, 1), blocks(64, 3), {{1}, {2, 3}}} {
			runFails(t, written(f), f, handed, api.ErrArg)
		}
	}
}
