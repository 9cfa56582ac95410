package typing

import (
	"slices"

	"recoup/api"
	"recoup/names"
	"recoup/number"
)

// checker goes through a description item by item, and gathers its core.
type checker struct {
	core   api.Core
	env    []api.Const
	sizes  map[api.ShapeKind]size
	places map[string]int // of the codes that names stand for
	said   [api.ITolerate + 1]mark
}

// mark is set of a kind of items that may be said once, and tells the one.
type mark struct {
	there bool
	item  api.Item
}

// begin knows what the names of the items stand for. All constants may be
// known from the beginning on: each is made ahead of where it is used.
func begin(l []api.Item) (*checker, api.Fault) {
	table, fault := names.Table(l...)
	if fault != (api.Fault{}) {
		return nil, fault
	}
	c := &checker{env: names.Env(table...), sizes: sizes(), places: map[string]int{}}
	c.core.Place = api.PRow
	return c, api.Fault{}
}

func (c *checker) item(t api.Item) api.Fault {
	if c.said[t.Kind].there {
		return at(t, api.ErrType)
	}
	var fault api.Fault
	switch t.Kind {
	case api.ICode:
		c.places[t.Name], fault = c.code(t.Shape)
		return fault
	case api.IUse:
		c.core.Use = c.places[t.Name]
	case api.IDomains:
		fault = c.domains(t)
	case api.IPlace:
		fault = c.place(t)
	case api.ITolerate:
		c.core.Tolerate, fault = c.least(t, 0)
	default: // a constant, which the environment has
		return api.Fault{}
	}
	c.said[t.Kind] = mark{true, t}
	return fault
}

// code puts the codes of a shape behind those that there are, and tells the
// place of its own.
func (c *checker) code(s api.Shape) (int, api.Fault) {
	if s.Kind == api.SName {
		return c.places[s.Name], api.Fault{}
	}
	fields, fault := c.fields(s)
	if fault != (api.Fault{}) {
		return 0, fault
	}
	made, e := sized(c.sizes, fields, c.core.Codes)
	if e != api.OK {
		return 0, api.Fault{Code: e, Line: s.Line, Col: s.Col}
	}
	c.core.Codes = append(c.core.Codes, made)
	return len(c.core.Codes) - 1, api.Fault{}
}

// fields are what a shape says of its code, without its size.
func (c *checker) fields(s api.Shape) (api.CoreCode, api.Fault) {
	made := api.CoreCode{Kind: s.Kind}
	var fault api.Fault
	switch s.Kind {
	case api.SProduct, api.SJoin:
		made.A, fault = c.code(s.Parts[0])
		if fault == (api.Fault{}) {
			made.B, fault = c.code(s.Parts[1])
		}
	case api.SMatrix:
		made.G, fault = c.matrix(s)
	default:
		var numbers []int
		numbers, fault = c.numbers(s.Args...)
		// Some of these kinds have no third number.
		args := [3]int{}
		copy(args[:], numbers)
		made.A, made.B, made.C = args[0], args[1], args[2]
	}
	return made, fault
}

// matrix is that of a shape's rows, as long as they have one length and are
// made of elements.
func (c *checker) matrix(s api.Shape) (api.Matrix, api.Fault) {
	numbers, fault := c.numbers(slices.Concat(s.Rows...)...)
	if fault != (api.Fault{}) {
		return api.Matrix{}, fault
	}
	made := api.Matrix{Rows: len(s.Rows), Cols: len(s.Rows[0])}
	unlike := func(row []api.Expr) bool { return len(row) != made.Cols }
	if slices.ContainsFunc(s.Rows, unlike) || !within(0, 255, numbers...) {
		return api.Matrix{}, api.Fault{Code: api.ErrType, Line: s.Line, Col: s.Col}
	}
	for _, n := range numbers {
		made.Data = append(made.Data, byte(n))
	}
	return made, api.Fault{}
}

func (c *checker) domains(t api.Item) api.Fault {
	n, fault := c.least(t, 1)
	if fault == (api.Fault{}) && n > api.MaxSide {
		fault = at(t, api.ErrLimit)
	}
	c.core.Domains = n
	return fault
}

func (c *checker) place(t api.Item) api.Fault {
	var fault api.Fault
	c.core.Place = t.Place
	switch t.Place {
	case api.PSpiral:
		c.core.Step, fault = c.least(t, 1)
	case api.PList:
		c.core.List, fault = c.numbers(t.List...)
		if fault == (api.Fault{}) {
			fault = outside(t.List, c.core.List, api.MaxNumber)
		}
	}
	return fault
}

// outside is the fault of the first number that is not from 0 to most, where
// its expression stands.
func outside(l []api.Expr, numbers []int, most int) api.Fault {
	for i, n := range numbers {
		if !within(0, most, n) {
			return api.Fault{Code: api.ErrType, Line: l[i].Line, Col: l[i].Col}
		}
	}
	return api.Fault{}
}

// least is the number of an item, which may not be below that bound.
func (c *checker) least(t api.Item, bound int) (int, api.Fault) {
	n, fault := number.Eval(t.Value, c.env...)
	if fault == (api.Fault{}) && n < bound {
		fault = at(t, api.ErrType)
	}
	return n, fault
}

// numbers are what the expressions come to, from the left; or the first fault.
func (c *checker) numbers(l ...api.Expr) ([]int, api.Fault) {
	var made []int
	for _, x := range l {
		n, fault := number.Eval(x, c.env...)
		if fault != (api.Fault{}) {
			return nil, fault
		}
		made = append(made, n)
	}
	return made, api.Fault{}
}

// end asks what can't be known before all items are: what there is of the used
// code and of the domains.
func (c *checker) end() api.Fault {
	if !c.said[api.IUse].there {
		return api.Fault{Code: api.ErrType, Line: 1, Col: 1}
	}
	blocks := c.core.Codes[c.core.Use].N
	if !c.said[api.IDomains].there {
		c.core.Domains = blocks
	}
	if fault := c.listed(blocks); fault != (api.Fault{}) {
		return fault
	}
	if e := borne(blocks, c.core.Tolerate); e != api.OK {
		return at(c.said[api.ITolerate].item, e)
	}
	return api.Fault{}
}

// listed asks whether a list has a domain for each block.
func (c *checker) listed(blocks int) api.Fault {
	if c.core.Place != api.PList {
		return api.Fault{}
	}
	t := c.said[api.IPlace].item
	if len(c.core.List) != blocks {
		return at(t, api.ErrType)
	}
	return outside(t.List, c.core.List, c.core.Domains-1)
}

func at(t api.Item, e api.Errno) api.Fault {
	return api.Fault{Code: e, Line: t.Line, Col: t.Col}
}
