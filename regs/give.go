package regs

import (
	"recoup/api"
	"recoup/flow"
)

// Give is the program that comes of giving registers to f, trimmed.
func Give(f api.Flow) (api.Program, api.Errno) {
	trimmed, e := flow.Trim(f)
	if e != api.OK {
		return api.Program{}, e
	}
	g := newGiver(trimmed)
	for at := range trimmed.Nodes {
		g.makeNode(at)
	}
	g.letOut()
	if g.program.Regs > api.MaxRegs || len(g.program.Steps) > api.MaxSteps {
		return api.Program{}, api.ErrLimit
	}
	return g.program, api.OK
}

// giver gives registers to a flow of which Outs hang on all values.
type giver struct {
	flow    api.Flow
	last    []int
	homes   []int // of each value the register it was given
	taken   [api.MaxRegs + 1]bool
	program api.Program
}

func newGiver(f api.Flow) *giver {
	last, _ := Last(f)
	return &giver{flow: f, last: last, homes: noneForEach(f), program: api.Program{Outs: len(f.Outs)}}
}

// makeNode adds the steps that make the node at this place. Its own value's
// register never becomes free at once: some of Outs hangs on each value.
func (g *giver) makeNode(at int) {
	each := func(do func(term api.Term)) {
		for _, term := range g.flow.Nodes[at] {
			do(term)
		}
	}
	each(func(term api.Term) { g.load(term.Of) })
	own := g.take(len(g.flow.Inputs) + at)
	g.add(api.Step{Kind: api.XClear, D: own})
	each(func(term api.Term) {
		g.add(api.Step{Kind: api.XMac, D: own, S: g.homes[term.Of], C: term.By})
	})
	each(func(term api.Term) {
		if g.last[term.Of] == at {
			g.taken[g.homes[term.Of]] = false
		}
	})
}

// letOut adds the steps by which the Outs come out. Their last use is the end as
// a whole: no register becomes free on the way.
func (g *giver) letOut() {
	for place, out := range g.flow.Outs {
		g.load(out)
		g.add(api.Step{Kind: api.XOut, D: place, S: g.homes[out]})
	}
}

// load adds the step that loads a value, if it is an input that is in no register
// yet: nodes have theirs from when they are made. What has lost its register to
// another value has no use left.
func (g *giver) load(value int) {
	if g.homes[value] != none {
		return
	}
	block := g.flow.Inputs[value]
	g.add(api.Step{Kind: api.XLoad, D: g.take(value), S: block})
	g.program.Reads |= 1 << block
}

// take gives a value the least free register; where none is free, one more than
// there may be, so that Regs tells that there would be too many.
func (g *giver) take(value int) int {
	register := 0
	for register < api.MaxRegs && g.taken[register] {
		register++
	}
	g.taken[register] = true
	g.homes[value] = register
	g.program.Regs = max(g.program.Regs, register+1)
	return register
}

// add keeps one step more than there may be, at the most: it is enough to tell
// that there would be too many.
func (g *giver) add(step api.Step) {
	if len(g.program.Steps) <= api.MaxSteps {
		g.program.Steps = append(g.program.Steps, step)
	}
}
