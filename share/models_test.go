package share_test

import (
	"bytes"
	"slices"
	"strconv"
	"strings"

	"recoup/api"
	"recoup/share"
)

// What the tests hold the package against: products made bit by bit, pairs
// counted one by one, flows whose values have names instead of numbers. None of
// it asks the project's packages.

// slow makes a matrix by its entries, one by one.
func slow(rows, cols int, at func(i, j int) byte) api.Matrix {
	made := make([]byte, 0, rows*cols)
	for i := range rows {
		for j := range cols {
			made = append(made, at(i, j))
		}
	}
	return api.Matrix{Rows: rows, Cols: cols, Data: made}
}

// of is a matrix of so many columns by its entries.
func of(cols int, entries ...byte) api.Matrix {
	return api.Matrix{Rows: len(entries) / cols, Cols: cols, Data: entries}
}

func identity(n int) api.Matrix {
	return slow(n, n, func(i, j int) byte {
		if i == j {
			return 1
		}
		return 0
	})
}

// entry is m's (i, j), as the document counts them.
func entry(m api.Matrix, i, j int) byte {
	return m.Data[i*m.Cols+j]
}

// slowTimes multiplies two elements as numbers of 16 bits and takes the
// remainder by 0x11d from the top down.
func slowTimes(a, b byte) byte {
	wide := 0
	for i := range 8 {
		if b>>i&1 == 1 {
			wide ^= int(a) << i
		}
	}
	for bit := 15; bit >= 8; bit-- {
		if wide>>bit&1 == 1 {
			wide ^= 0x11d << (bit - 8)
		}
	}
	return byte(wide)
}

// products keeps all products, each at [a][b]: the tests ask for many.
var products = func() (all [256][256]byte) {
	for a := range all {
		for b := range all[a] {
			all[a][b] = slowTimes(byte(a), byte(b))
		}
	}
	return all
}()

// written is a flow as the chapter writes it: what is written alike is the same.
func written(f api.Flow) string {
	var nodes []string
	for _, terms := range f.Nodes {
		var told []string
		for _, term := range terms {
			told = append(told, strconv.Itoa(term.Of)+" by "+strconv.Itoa(int(term.By)))
		}
		nodes = append(nodes, "("+strings.Join(told, ", ")+")")
	}
	return numbers(f.Inputs) + "; " + strings.Join(nodes, ", ") + "; " + numbers(f.Outs)
}

func numbers(list []int) string {
	var told []string
	for _, number := range list {
		told = append(told, strconv.Itoa(number))
	}
	return strings.Join(told, " ")
}

// slowMay holds a flow against the words of the chapter, one after the other.
func slowMay(f api.Flow) bool {
	may := len(f.Nodes) <= 4096 && len(f.Outs) <= 64
	for i, input := range f.Inputs {
		may = may && 0 <= input && input <= 63 && (i == 0 || f.Inputs[i-1] < input)
	}
	for i, terms := range f.Nodes {
		for j, term := range terms {
			may = may && term.By != 0 && 0 <= term.Of && term.Of < len(f.Inputs)+i && (j == 0 || terms[j-1].Of < term.Of)
		}
	}
	for _, out := range f.Outs {
		may = may && 0 <= out && out < len(f.Inputs)+len(f.Nodes)
	}
	return may
}

// slowBytes are what the Outs have at one place at which the blocks have these
// bytes.
func slowBytes(f api.Flow, at func(block int) byte) []byte {
	var values []byte
	for _, input := range f.Inputs {
		values = append(values, at(input))
	}
	for _, terms := range f.Nodes {
		var sum byte
		for _, term := range terms {
			sum ^= products[term.By][values[term.Of]]
		}
		values = append(values, sum)
	}
	var outs []byte
	for _, out := range f.Outs {
		outs = append(outs, values[out])
	}
	return outs
}

// slowRun goes through the blocks place by place.
func slowRun(f api.Flow, blocks [][]byte, length int) [][]byte {
	outs := make([][]byte, len(f.Outs))
	for place := range length {
		for i, element := range slowBytes(f, func(block int) byte { return blocks[block][place] }) {
			outs[i] = append(outs[i], element)
		}
	}
	return outs
}

// slowMatrix says column by column what there is of one block: what comes out
// where that block has 1 and all others 0.
func slowMatrix(f api.Flow, cols int) api.Matrix {
	columns := make([][]byte, cols)
	for j := range columns {
		columns[j] = slowBytes(f, func(block int) byte {
			if block == j {
				return 1
			}
			return 0
		})
	}
	return slow(len(f.Outs), cols, func(i, j int) byte { return columns[j][i] })
}

// slowOf goes through a matrix that is right as P21.2 does.
func slowOf(m api.Matrix) api.Flow {
	var f api.Flow
	values := map[int]int{}
	for j := range m.Cols {
		used := false
		for i := range m.Rows {
			used = used || entry(m, i, j) > 0
		}
		if used {
			values[j] = len(f.Inputs)
			f.Inputs = append(f.Inputs, j)
		}
	}
	for i := range m.Rows {
		var terms []api.Term
		for j := range m.Cols {
			if entry(m, i, j) > 0 {
				terms = append(terms, api.Term{Of: values[j], By: entry(m, i, j)})
			}
		}
		f.Nodes = append(f.Nodes, terms)
		f.Outs = append(f.Outs, len(values)+i)
	}
	return f
}

// slowCost counts the terms, of a node all but its first one as sums.
func slowCost(f api.Flow) (sums, products int) {
	for _, terms := range f.Nodes {
		for j, term := range terms {
			if j > 0 {
				sums++
			}
			if term.By > 1 {
				products++
			}
		}
	}
	return sums, products
}

// slowFactor is the factor that a node has of a value, 0 if it has no such term.
func slowFactor(terms []api.Term, value int) byte {
	for _, term := range terms {
		if term.Of == value {
			return term.By
		}
	}
	return 0
}

// slowIn says whether a pair of this ratio is in a node.
func slowIn(terms []api.Term, u, v int, ratio byte) bool {
	return slowFactor(terms, u) != 0 && products[slowFactor(terms, u)][ratio] == slowFactor(terms, v)
}

// slowPairs are all pairs that are in two nodes at least: of all values U, of
// all values V, of all ratios, as these rise.
func slowPairs(f api.Flow) []share.Pair {
	var made []share.Pair
	rows, used := slowRows(f)
	for i, u := range used {
		var having [][]byte
		for _, row := range rows {
			if row[u] != 0 {
				having = append(having, row)
			}
		}
		for _, v := range used[i+1:] {
			var ratios []byte
			for _, row := range having {
				if row[v] != 0 {
					ratios = append(ratios, quotients[row[v]][row[u]])
				}
			}
			slices.Sort(ratios)
			for len(ratios) > 0 {
				in := bytes.LastIndexByte(ratios, ratios[0]) + 1
				if in >= 2 {
					made = append(made, share.Pair{U: u, V: v, Ratio: ratios[0], In: in})
				}
				ratios = ratios[in:]
			}
		}
	}
	return made
}

// slowBest is the first pair of those that are in the most nodes.
func slowBest(f api.Flow) (best share.Pair, ok bool) {
	terms := 0
	for _, node := range f.Nodes {
		terms += len(node)
	}
	if terms > 512 || len(f.Nodes) == 4096 {
		return best, false
	}
	for _, pair := range slowPairs(f) {
		if pair.In > best.In {
			best = pair
		}
	}
	return best, best.In > 0
}

// slowRows are the nodes of two terms and more, each as its factors of all
// values from 0 on; used are the values that some of them has.
func slowRows(f api.Flow) (rows [][]byte, used []int) {
	for _, node := range f.Nodes {
		if len(node) < 2 {
			continue
		}
		row := make([]byte, len(f.Inputs)+len(f.Nodes))
		for _, term := range node {
			row[term.Of] = term.By
			used = append(used, term.Of)
		}
		rows = append(rows, row)
	}
	slices.Sort(used)
	return rows, slices.Compact(used)
}

// quotients keeps at [a][b] what times b is a, of b that is not 0.
var quotients = func() (all [256][256]byte) {
	for b := 1; b < 256; b++ {
		for c := range 256 {
			all[products[b][c]][b] = byte(c)
		}
	}
	return all
}()

// named is a flow whose values are told by names, not by numbers: those of the
// inputs, those of the nodes in their order, each with its factors by names.
type named struct {
	inputs, nodes, outs []string
	factors             map[string]map[string]byte
}

func withNames(f api.Flow) named {
	made := named{factors: map[string]map[string]byte{}}
	name := func(value int) string { return "value " + strconv.Itoa(value) }
	for i := range f.Inputs {
		made.inputs = append(made.inputs, name(i))
	}
	for i, terms := range f.Nodes {
		own := name(len(f.Inputs) + i)
		made.nodes = append(made.nodes, own)
		made.factors[own] = map[string]byte{}
		for _, term := range terms {
			made.factors[own][name(term.Of)] = term.By
		}
	}
	for _, out := range f.Outs {
		made.outs = append(made.outs, name(out))
	}
	return made
}

// withNumbers is the flow of these inputs in which each name is the number of
// its place.
func (n named) withNumbers(inputs []int) api.Flow {
	made := api.Flow{Inputs: inputs}
	all := append(append([]string{}, n.inputs...), n.nodes...)
	number := map[string]int{}
	for i, name := range all {
		number[name] = i
	}
	for _, own := range n.nodes {
		var terms []api.Term
		for name, factor := range n.factors[own] {
			terms = append(terms, api.Term{Of: number[name], By: factor})
		}
		slices.SortFunc(terms, func(a, b api.Term) int { return a.Of - b.Of })
		made.Nodes = append(made.Nodes, terms)
	}
	for _, out := range n.outs {
		made.Outs = append(made.Outs, number[out])
	}
	return made
}

// slowOnce takes the pair out of a flow whose values have names, so that none
// of them changes.
func slowOnce(f api.Flow) (api.Flow, bool) {
	best, ok := slowBest(f)
	if !ok {
		return f, false
	}
	n := withNames(f)
	u, v, sum := "value "+strconv.Itoa(best.U), "value "+strconv.Itoa(best.V), "the sum"
	var order []string
	for i, own := range n.nodes {
		if slowIn(f.Nodes[i], best.U, best.V, best.Ratio) {
			if n.factors[sum] == nil {
				n.factors[sum] = map[string]byte{u: 1, v: best.Ratio}
				order = append(order, sum)
			}
			n.factors[own][sum] = n.factors[own][u]
			delete(n.factors[own], u)
			delete(n.factors[own], v)
		}
		order = append(order, own)
	}
	n.nodes = order
	return n.withNumbers(f.Inputs), true
}

func slowShare(f api.Flow) api.Flow {
	for {
		less, ok := slowOnce(f)
		if !ok {
			return f
		}
		f = less
	}
}
