package regs_test

import (
	"bytes"
	"slices"
	"strconv"
	"strings"

	"recoup/api"
)

// What the tests hold the package against: products made bit by bit, registers
// whose values' uses are looked up anew each time, steps done byte by byte. None
// of it asks the project's packages.

// slow makes a matrix by its entries, one by one.
func slow(rows, cols int, at func(i, j int) byte) api.Matrix {
	made := make([]byte, 0, rows*cols)
	for i := range rows {
		for j := range cols {
			made = append(made, at(i, j))
		}
	}
	return api.Matrix{Rows: rows, Cols: cols, Data: made}
}

func identity(n int) api.Matrix {
	return slow(n, n, func(i, j int) byte {
		if i == j {
			return 1
		}
		return 0
	})
}

// entry is m's (i, j), as the document counts them.
func entry(m api.Matrix, i, j int) byte {
	return m.Data[i*m.Cols+j]
}

// slowTimes multiplies two elements as numbers of 16 bits and takes the
// remainder by 0x11d from the top down.
func slowTimes(a, b byte) byte {
	wide := 0
	for i := range 8 {
		if b>>i&1 == 1 {
			wide ^= int(a) << i
		}
	}
	for bit := 15; bit >= 8; bit-- {
		if wide>>bit&1 == 1 {
			wide ^= 0x11d << (bit - 8)
		}
	}
	return byte(wide)
}

// products keeps all products, each at [a][b]: the tests ask for many.
var products = func() (all [256][256]byte) {
	for a := range all {
		for b := range all[a] {
			all[a][b] = slowTimes(byte(a), byte(b))
		}
	}
	return all
}()

// written is a flow as the chapter writes it: what is written alike is the same.
func written(f api.Flow) string {
	var nodes []string
	for _, terms := range f.Nodes {
		var told []string
		for _, term := range terms {
			told = append(told, strconv.Itoa(term.Of)+" by "+strconv.Itoa(int(term.By)))
		}
		nodes = append(nodes, "("+strings.Join(told, ", ")+")")
	}
	return numbers(f.Inputs) + "; " + strings.Join(nodes, ", ") + "; " + numbers(f.Outs)
}

func numbers(list []int) string {
	var told []string
	for _, number := range list {
		told = append(told, strconv.Itoa(number))
	}
	return strings.Join(told, " ")
}

// slowMay holds a flow against the words of the chapter, one after the other.
func slowMay(f api.Flow) bool {
	may := len(f.Nodes) <= 4096 && len(f.Outs) <= 64
	for i, input := range f.Inputs {
		may = may && 0 <= input && input <= 63 && (i == 0 || f.Inputs[i-1] < input)
	}
	for i, terms := range f.Nodes {
		for j, term := range terms {
			may = may && term.By != 0 && 0 <= term.Of && term.Of < len(f.Inputs)+i && (j == 0 || terms[j-1].Of < term.Of)
		}
	}
	for _, out := range f.Outs {
		may = may && 0 <= out && out < len(f.Inputs)+len(f.Nodes)
	}
	return may
}

// slowBytes are what the Outs have at one place at which the blocks have these
// bytes.
func slowBytes(f api.Flow, at func(block int) byte) []byte {
	var values []byte
	for _, input := range f.Inputs {
		values = append(values, at(input))
	}
	for _, terms := range f.Nodes {
		var sum byte
		for _, term := range terms {
			sum ^= products[term.By][values[term.Of]]
		}
		values = append(values, sum)
	}
	var outs []byte
	for _, out := range f.Outs {
		outs = append(outs, values[out])
	}
	return outs
}

// slowRun goes through the blocks place by place.
func slowRun(f api.Flow, blocks [][]byte, length int) [][]byte {
	outs := make([][]byte, len(f.Outs))
	for place := range length {
		for i, element := range slowBytes(f, func(block int) byte { return blocks[block][place] }) {
			outs[i] = append(outs[i], element)
		}
	}
	return outs
}

// slowOf goes through a matrix that is right as P21.2 does.
func slowOf(m api.Matrix) api.Flow {
	var f api.Flow
	values := map[int]int{}
	for j := range m.Cols {
		used := false
		for i := range m.Rows {
			used = used || entry(m, i, j) > 0
		}
		if used {
			values[j] = len(f.Inputs)
			f.Inputs = append(f.Inputs, j)
		}
	}
	for i := range m.Rows {
		var terms []api.Term
		for j := range m.Cols {
			if entry(m, i, j) > 0 {
				terms = append(terms, api.Term{Of: values[j], By: entry(m, i, j)})
			}
		}
		f.Nodes = append(f.Nodes, terms)
		f.Outs = append(f.Outs, len(values)+i)
	}
	return f
}

// slowHung are the values on which one of Outs hangs: from the last one down,
// since a value hangs on lesser ones alone.
func slowHung(f api.Flow) map[int]bool {
	hung := map[int]bool{}
	for _, out := range f.Outs {
		hung[out] = true
	}
	for i := len(f.Nodes) - 1; i >= 0; i-- {
		if hung[len(f.Inputs)+i] {
			for _, term := range f.Nodes[i] {
				hung[term.Of] = true
			}
		}
	}
	return hung
}

// slowTrim takes out one value that is not hung on after the other.
func slowTrim(f api.Flow) api.Flow {
	hung := slowHung(f)
	for value := len(f.Inputs) + len(f.Nodes) - 1; value >= 0; value-- {
		if !hung[value] {
			f = without(f, value)
		}
	}
	return f
}

// without is a flow in which a value is not there that stands nowhere.
func without(f api.Flow, value int) api.Flow {
	down := func(number int) int {
		if number > value {
			return number - 1
		}
		return number
	}
	var less api.Flow
	for i, input := range f.Inputs {
		if i != value {
			less.Inputs = append(less.Inputs, input)
		}
	}
	for i, terms := range f.Nodes {
		if len(f.Inputs)+i == value {
			continue
		}
		var moved []api.Term
		for _, term := range terms {
			moved = append(moved, api.Term{Of: down(term.Of), By: term.By})
		}
		less.Nodes = append(less.Nodes, moved)
	}
	for _, out := range f.Outs {
		less.Outs = append(less.Outs, down(out))
	}
	return less
}

// told is a program as the chapter writes it, with all that its steps' fields
// have: what is told alike is the same.
func told(p api.Program) string {
	var list []string
	for _, step := range p.Steps {
		list = append(list, toldStep(step))
	}
	return strings.Join(list, "; ") + ": Regs " + strconv.Itoa(p.Regs) + ", Outs " + strconv.Itoa(p.Outs) + ", Reads " + numbers(toldSet(p.Reads))
}

func toldStep(step api.Step) string {
	list := []string{"kind " + strconv.Itoa(int(step.Kind)), strconv.Itoa(step.D), strconv.Itoa(step.S), strconv.Itoa(int(step.C))}
	switch {
	case step == api.Step{Kind: 1, D: step.D}:
		list = []string{"clear", list[1]}
	case step == api.Step{Kind: 2, D: step.D, S: step.S}:
		list = []string{"load", list[1], list[2]}
	case step == api.Step{Kind: 3, D: step.D, S: step.S, C: step.C}:
		list[0] = "mac"
	case step == api.Step{Kind: 4, D: step.D, S: step.S}:
		list = []string{"out", list[1], list[2]}
	}
	return strings.Join(list, " ")
}

func toldSet(set api.Set) []int {
	var list []int
	for i := range 64 {
		if set>>i&1 == 1 {
			list = append(list, i)
		}
	}
	return list
}

// steps reads steps as the chapter writes them.
func steps(text string) []api.Step {
	kinds := map[string]api.StepKind{"clear": 1, "load": 2, "mac": 3, "out": 4}
	var made []api.Step
	for told := range strings.SplitSeq(text, "; ") {
		if told == "" {
			continue
		}
		words := append(strings.Fields(told), "0", "0")
		var fields [3]int
		for i := range fields {
			fields[i], _ = strconv.Atoi(words[i+1])
		}
		made = append(made, api.Step{Kind: kinds[words[0]], D: fields[0], S: fields[1], C: byte(fields[2])})
	}
	return made
}

// slowUses has of each value the places of its uses, one behind the other.
func slowUses(f api.Flow) map[int][]int {
	uses := map[int][]int{}
	for i, terms := range f.Nodes {
		for _, term := range terms {
			uses[term.Of] = append(uses[term.Of], i)
		}
	}
	for _, out := range f.Outs {
		uses[out] = append(uses[out], len(f.Nodes))
	}
	return uses
}

func slowLast(f api.Flow) []int {
	uses, made := slowUses(f), []int{}
	for value := range len(f.Inputs) + len(f.Nodes) {
		last := -1
		for _, use := range uses[value] {
			last = max(last, use)
		}
		made = append(made, last)
	}
	return made
}

// slowRegisters are registers as the chapter tells of them: what each one holds,
// however many there are.
type slowRegisters struct {
	f     api.Flow
	uses  map[int][]int
	holds []int
	made  api.Program
}

// take is the least register in which no value is that is used at this place or
// behind it.
func (r *slowRegisters) take(value, at int) int {
	register := slices.IndexFunc(r.holds, func(held int) bool {
		return slices.Max(append([]int{-1}, r.uses[held]...)) < at
	})
	if register < 0 {
		register = len(r.holds)
		r.holds = append(r.holds, 0)
	}
	r.holds[register] = value
	return register
}

// bring is the register that holds a value, which is loaded, if need be.
func (r *slowRegisters) bring(value, at int) int {
	register := slices.Index(r.holds, value)
	if register < 0 {
		block := r.f.Inputs[value]
		register = r.take(value, at)
		r.made.Steps = append(r.made.Steps, api.Step{Kind: 2, D: register, S: block})
		r.made.Reads += 1 << block
	}
	return register
}

// slowGive is the program, however many registers and steps it has.
func slowGive(f api.Flow) api.Program {
	f = slowTrim(f)
	r := slowRegisters{f: f, uses: slowUses(f)}
	for i, terms := range f.Nodes {
		for _, term := range terms {
			r.bring(term.Of, i)
		}
		own := r.take(len(f.Inputs)+i, i)
		r.made.Steps = append(r.made.Steps, api.Step{Kind: 1, D: own})
		for _, term := range terms {
			r.made.Steps = append(r.made.Steps, api.Step{Kind: 3, D: own, S: r.bring(term.Of, i), C: term.By})
		}
	}
	for place, out := range f.Outs {
		register := r.bring(out, len(f.Nodes))
		r.made.Steps = append(r.made.Steps, api.Step{Kind: 4, D: place, S: register})
	}
	r.made.Regs, r.made.Outs = len(r.holds), len(f.Outs)
	return r.made
}

// slowCan asks whether all steps of a program can be done one by one, and all
// places have something at the end.
func slowCan(p api.Program, blocks int) bool {
	can := 0 <= p.Regs && p.Regs <= 256 && 0 <= p.Outs && p.Outs <= 64 && len(p.Steps) <= 65536
	holds, has := map[int]bool{}, map[int]bool{}
	within := func(number, most int) bool { return 0 <= number && number < most }
	for _, step := range p.Steps {
		switch step.Kind {
		case 1:
			can = can && within(step.D, p.Regs)
			holds[step.D] = true
		case 2:
			can = can && within(step.D, p.Regs) && within(step.S, blocks)
			holds[step.D] = true
		case 3:
			can = can && holds[step.D] && holds[step.S]
		case 4:
			can = can && holds[step.S] && within(step.D, p.Outs) && !has[step.D]
			has[step.D] = true
		default:
			can = false
		}
	}
	return can && len(has) == p.Outs
}

// slowDone is what comes out of a program, byte by byte.
func slowDone(p api.Program, blocks [][]byte) ([][]byte, api.Errno) {
	length := 0
	for _, block := range blocks {
		if len(block) != len(blocks[0]) {
			return nil, 3
		}
		length = len(block)
	}
	if !slowCan(p, len(blocks)) {
		return nil, 2
	}
	outs := make([][]byte, p.Outs)
	for place := range length {
		registers := make([]byte, p.Regs)
		for _, step := range p.Steps {
			switch step.Kind {
			case 1:
				registers[step.D] = 0
			case 2:
				registers[step.D] = blocks[step.S][place]
			case 3:
				registers[step.D] ^= products[step.C][registers[step.S]]
			case 4:
				outs[step.D] = append(outs[step.D], registers[step.S])
			}
		}
	}
	return outs, 0
}

func sameBlocks(a, b [][]byte) bool {
	return slices.EqualFunc(a, b, bytes.Equal)
}
