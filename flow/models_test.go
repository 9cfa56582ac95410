package flow_test

import (
	"strconv"
	"strings"

	"recoup/api"
)

// What the tests hold the package against: products made bit by bit, values one
// by one, a flow's text in the chapter's writing. None of it asks the project's
// packages.

// slow makes a matrix by its entries, one by one.
func slow(rows, cols int, at func(i, j int) byte) api.Matrix {
	made := make([]byte, 0, rows*cols)
	for i := range rows {
		for j := range cols {
			made = append(made, at(i, j))
		}
	}
	return api.Matrix{Rows: rows, Cols: cols, Data: made}
}

// of is a matrix of so many columns by its entries.
func of(cols int, entries ...byte) api.Matrix {
	return api.Matrix{Rows: len(entries) / cols, Cols: cols, Data: entries}
}

func identity(n int) api.Matrix {
	return slow(n, n, func(i, j int) byte {
		if i == j {
			return 1
		}
		return 0
	})
}

func noughts(rows, cols int) api.Matrix {
	return slow(rows, cols, func(_, _ int) byte { return 0 })
}

// entry is m's (i, j), as the document counts them.
func entry(m api.Matrix, i, j int) byte {
	return m.Data[i*m.Cols+j]
}

// slowTimes multiplies two elements as numbers of 16 bits and takes the
// remainder by 0x11d from the top down.
func slowTimes(a, b byte) byte {
	wide := 0
	for i := range 8 {
		if b>>i&1 == 1 {
			wide ^= int(a) << i
		}
	}
	for bit := 15; bit >= 8; bit-- {
		if wide>>bit&1 == 1 {
			wide ^= 0x11d << (bit - 8)
		}
	}
	return byte(wide)
}

// products keeps all products, each at [a][b]: the tests ask for many.
var products = func() (all [256][256]byte) {
	for a := range all {
		for b := range all[a] {
			all[a][b] = slowTimes(byte(a), byte(b))
		}
	}
	return all
}()

// written is a flow as the chapter writes it: what is written alike is the same.
func written(f api.Flow) string {
	var nodes []string
	for _, terms := range f.Nodes {
		var told []string
		for _, term := range terms {
			told = append(told, strconv.Itoa(term.Of)+" by "+strconv.Itoa(int(term.By)))
		}
		nodes = append(nodes, "("+strings.Join(told, ", ")+")")
	}
	return numbers(f.Inputs) + "; " + strings.Join(nodes, ", ") + "; " + numbers(f.Outs)
}

func numbers(list []int) string {
	var told []string
	for _, number := range list {
		told = append(told, strconv.Itoa(number))
	}
	return strings.Join(told, " ")
}

// slowMay holds a flow against the words of the chapter, one after the other.
func slowMay(f api.Flow) bool {
	may := len(f.Nodes) <= 4096 && len(f.Outs) <= 64
	for i, input := range f.Inputs {
		may = may && 0 <= input && input <= 63 && (i == 0 || f.Inputs[i-1] < input)
	}
	for i, terms := range f.Nodes {
		for j, term := range terms {
			may = may && term.By != 0 && 0 <= term.Of && term.Of < len(f.Inputs)+i && (j == 0 || terms[j-1].Of < term.Of)
		}
	}
	for _, out := range f.Outs {
		may = may && 0 <= out && out < len(f.Inputs)+len(f.Nodes)
	}
	return may
}

// slowBytes are what the Outs have at one place at which the blocks have these
// bytes.
func slowBytes(f api.Flow, at func(block int) byte) []byte {
	var values []byte
	for _, input := range f.Inputs {
		values = append(values, at(input))
	}
	for _, terms := range f.Nodes {
		var sum byte
		for _, term := range terms {
			sum ^= products[term.By][values[term.Of]]
		}
		values = append(values, sum)
	}
	var outs []byte
	for _, out := range f.Outs {
		outs = append(outs, values[out])
	}
	return outs
}

// slowRun goes through the blocks place by place.
func slowRun(f api.Flow, blocks [][]byte, length int) [][]byte {
	outs := make([][]byte, len(f.Outs))
	for place := range length {
		for i, element := range slowBytes(f, func(block int) byte { return blocks[block][place] }) {
			outs[i] = append(outs[i], element)
		}
	}
	return outs
}

// slowMatrix says column by column what there is of one block: what comes out
// where that block has 1 and all others 0.
func slowMatrix(f api.Flow, cols int) api.Matrix {
	columns := make([][]byte, cols)
	for j := range columns {
		columns[j] = slowBytes(f, func(block int) byte {
			if block == j {
				return 1
			}
			return 0
		})
	}
	return slow(len(f.Outs), cols, func(i, j int) byte { return columns[j][i] })
}

// slowOf goes through a matrix that is right as P21.2 does.
func slowOf(m api.Matrix) api.Flow {
	var f api.Flow
	values := map[int]int{}
	for j := range m.Cols {
		used := false
		for i := range m.Rows {
			used = used || entry(m, i, j) > 0
		}
		if used {
			values[j] = len(f.Inputs)
			f.Inputs = append(f.Inputs, j)
		}
	}
	for i := range m.Rows {
		var terms []api.Term
		for j := range m.Cols {
			if entry(m, i, j) > 0 {
				terms = append(terms, api.Term{Of: values[j], By: entry(m, i, j)})
			}
		}
		f.Nodes = append(f.Nodes, terms)
		f.Outs = append(f.Outs, len(values)+i)
	}
	return f
}

// slowCost counts the terms, of a node all but its first one as sums.
func slowCost(f api.Flow) (sums, products int) {
	for _, terms := range f.Nodes {
		for j, term := range terms {
			if j > 0 {
				sums++
			}
			if term.By > 1 {
				products++
			}
		}
	}
	return sums, products
}

// slowHung are the values on which one of Outs hangs: from the last one down,
// since a value hangs on lesser ones alone.
func slowHung(f api.Flow) map[int]bool {
	hung := map[int]bool{}
	for _, out := range f.Outs {
		hung[out] = true
	}
	for i := len(f.Nodes) - 1; i >= 0; i-- {
		if hung[len(f.Inputs)+i] {
			for _, term := range f.Nodes[i] {
				hung[term.Of] = true
			}
		}
	}
	return hung
}

// slowTrim takes out one value that is not hung on after the other.
func slowTrim(f api.Flow) api.Flow {
	hung := slowHung(f)
	for value := len(f.Inputs) + len(f.Nodes) - 1; value >= 0; value-- {
		if !hung[value] {
			f = without(f, value)
		}
	}
	return f
}

// without is a flow in which a value is not there that stands nowhere.
func without(f api.Flow, value int) api.Flow {
	down := func(number int) int {
		if number > value {
			return number - 1
		}
		return number
	}
	var less api.Flow
	for i, input := range f.Inputs {
		if i != value {
			less.Inputs = append(less.Inputs, input)
		}
	}
	for i, terms := range f.Nodes {
		if len(f.Inputs)+i == value {
			continue
		}
		var moved []api.Term
		for _, term := range terms {
			moved = append(moved, api.Term{Of: down(term.Of), By: term.By})
		}
		less.Nodes = append(less.Nodes, moved)
	}
	for _, out := range f.Outs {
		less.Outs = append(less.Outs, down(out))
	}
	return less
}
