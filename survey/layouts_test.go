package survey_test

import (
	"fmt"
	"slices"
	"testing"

	"recoup/api"
	"recoup/elab"
	"recoup/floor"
	"recoup/shape"
)

// source tells numbers by a simple rule that differs from seed to seed.
type source struct {
	state uint32
}

func seeded(seed int) *source {
	return &source{uint32(seed)*2654435761 + 12345}
}

// below is a number from 0 to ahead of n.
func (s *source) below(n int) int {
	s.state = s.state*1664525 + 1013904223
	return int(s.state>>16) % n
}

// list is one of so many elements.
func (s *source) list(length int) []byte {
	made := make([]byte, length)
	for i := range made {
		made[i] = byte(s.below(256))
	}
	return made
}

// homes are those of so many blocks, any ones.
func (s *source) homes(blocks, domains int) []int {
	made := make([]int, blocks)
	for i := range made {
		made[i] = s.below(domains)
	}
	return made
}

func one[T any](s *source, list []T) T {
	return list[s.below(len(list))]
}

// must is for calls that answer no error.
func must[T any](made T, e api.Errno) T {
	if e != api.OK {
		panic(e)
	}
	return made
}

// from is the layout of a text.
func from(t *testing.T, text string) api.Layout {
	t.Helper()
	l, f := elab.From(text)
	if f != (api.Fault{}) {
		t.Fatalf("From(%s): %v", text, f)
	}
	return l
}

// code is one, and what it is called where a test tells of it; recovers asks
// the models, of each set once.
type code struct {
	name     string
	c        api.Code
	recovers func(lost api.Set) bool
}

func known(name string, c api.Code) code {
	found := map[api.Set]bool{}
	return code{name, c, func(lost api.Set) bool {
		ok, met := found[lost]
		if !met {
			ok = slowRecovers(c.G, lost)
			found[lost] = ok
		}
		return ok
	}}
}

// codes are those that layer 16 makes, with few blocks.
func codes() []code {
	reed, pair := must(shape.Reed(2, 1)), must(shape.Local(2, 1, 0))
	three, twice := must(shape.Explicit(of(1, 3))), must(shape.Explicit(of(1, 7, 9)))
	made := map[string]api.Code{
		"reed(1, 0)":                        must(shape.Reed(1, 0)),
		"reed(3, 0)":                        must(shape.Reed(3, 0)),
		"reed(1, 3)":                        must(shape.Reed(1, 3)),
		"reed(2, 1)":                        reed,
		"reed(4, 3)":                        must(shape.Reed(4, 3)),
		"cross(2, 2)":                       must(shape.Cross(2, 2)),
		"cross(6, 1)":                       must(shape.Cross(6, 1)),
		"local(2, 1, 0)":                    pair,
		"local(4, 2, 0)":                    must(shape.Local(4, 2, 0)),
		"local(4, 2, 1)":                    must(shape.Local(4, 2, 1)),
		"local(3, 3, 2)":                    must(shape.Local(3, 3, 2)),
		"pyramid(4, 2, 1)":                  must(shape.Pyramid(4, 2, 1)),
		"pyramid(4, 1, 2)":                  must(shape.Pyramid(4, 1, 2)),
		"product of reed(2, 1) and matrix":  must(shape.Product(reed, twice)),
		"product of matrix and local":       must(shape.Product(twice, pair)),
		"product of local and three":        must(shape.Product(pair, three)),
		"join of local(2, 1, 0) and matrix": must(shape.Join(pair, three)),
		"join of reed and cross":            must(shape.Join(reed, must(shape.Cross(2, 2)))),
		"join of matrix and pyramid":        must(shape.Join(twice, must(shape.Pyramid(2, 1, 1)))),
		"matrix, one block":                 three,
		"matrix with noughts":               must(shape.Explicit(of(2, 0, 7, 0, 0, 9, 1, 9, 1))),
		"matrix, each row twice":            must(shape.Explicit(of(2, 1, 2, 1, 2, 0, 1, 0, 1))),
		"matrix, noughts on top":            must(shape.Explicit(of(2, 0, 0, 0, 0, 1, 0, 0, 1))),
		"matrix, the data last":             must(shape.Explicit(of(3, 1, 1, 1, 1, 2, 3, 0, 0, 1, 0, 1, 0, 1, 0, 0))),
	}
	var all []code
	for name, c := range made {
		all = append(all, known(name, c))
	}
	slices.SortFunc(all, func(a, b code) int { return slices.Compare([]byte(a.name), []byte(b.name)) })
	return all
}

// place is how blocks are placed.
type place struct {
	kind    api.PlaceKind
	domains int
	step    int
	list    []int
}

// places are such for so many blocks: in rows, in spreads, along spirals, by
// lists, in one domain, in as many as there are blocks, and in more.
func places(blocks int) []place {
	var made []place
	for _, domains := range []int{1, 2, 3, blocks, blocks + 1, 9} {
		made = append(made,
			place{api.PRow, domains, 0, nil},
			place{api.PSpread, domains, 0, nil},
			place{api.PSpiral, domains, 2, nil},
			place{api.PList, domains, 0, seeded(domains).homes(blocks, domains)})
	}
	all, last := make([]int, blocks), make([]int, blocks)
	for i := range last {
		all[i], last[i] = 63-i, 63
	}
	return append(made, place{api.PRow, 64, 0, nil}, place{api.PList, 64, 0, all}, place{api.PList, 64, 0, last})
}

// laid is a code's layout.
func laid(k code, p place, tolerate int) api.Layout {
	homes := must(floor.Homes(p.kind, k.c.G.Rows, p.domains, p.step, p.list))
	return api.Layout{Code: k.c, Homes: homes, Domains: p.domains, Tolerate: tolerate}
}

// alone is a code's layout with each block at home alone.
func alone(k code, tolerate int) api.Layout {
	return laid(k, place{kind: api.PRow, domains: k.c.G.Rows}, tolerate)
}

func (k code) String() string { return k.name }

// everyLayout does something to each code, placed in each way, with each
// tolerance in turn: each way has all of them over the codes, and the first one
// all of them of each code.
func everyLayout(do func(k code, l api.Layout)) {
	for turn, k := range codes() {
		blocks := k.c.G.Rows
		for tolerate := range blocks + 1 {
			do(k, alone(k, tolerate))
		}
		for i, p := range places(blocks) {
			do(k, laid(k, p, (i+turn)%(blocks+1)))
			do(k, laid(k, p, blocks))
		}
	}
}

// The layouts that the other tests go through are of all kinds: all may be, of
// each number of blocks that is borne there are some, and some domains and
// aisles survive, some do not.
func TestLayoutsOfAllKindsAreGoneThrough(t *testing.T) {
	found := map[string]int{}
	everyLayout(func(k code, l api.Layout) {
		if !elab.May(l) {
			t.Errorf("%v: a layout that may not be", k)
		}
		r := slowReport(l, k.recovers)
		found[fmt.Sprint("tolerance ", r.Tolerance)]++
		found[fmt.Sprint("fatal ", len(r.Fatal) > 0)]++
		found[fmt.Sprint("tolerate ", l.Tolerate)]++
		for d := range l.Domains {
			found[fmt.Sprint("domain ", r.Domains[d], " ", r.Aisles[d])]++
		}
	})
	for _, kind := range []string{
		"tolerance 0", "tolerance 1", "tolerance 2", "tolerance 3", "fatal true", "fatal false",
		"tolerate 0", "tolerate 1", "tolerate 2", "tolerate 7", "domain true true", "domain true false", "domain false false",
	} {
		if found[kind] < 20 {
			t.Errorf("%s stands for %d layouts or domains", kind, found[kind])
		}
	}
	if found["domain false true"] > 0 {
		t.Errorf("the models let an aisle survive, and not its domain")
	}
}
