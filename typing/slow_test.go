package typing_test

import (
	"fmt"
	"slices"
	"testing"

	"recoup/api"
	"recoup/names"
	"recoup/number"
	"recoup/tree"
	"recoup/typing"
)

// A description of any items is checked here in a slow way: all that is wrong
// with it is written down, each with a key that tells when it is met, and the
// least key has the fault. Shapes are known by the name of their item and the
// way to them; sizes are those of the shapes in the place of their names.

type complaint struct {
	key []int
	f   api.Fault
}

type slow struct {
	env        []api.Const
	shapes     map[string]api.Shape // by their ways
	ways       []string             // of the codes, in their order
	complaints []complaint
}

func (s *slow) wrong(f api.Fault, key ...int) {
	s.complaints = append(s.complaints, complaint{key, f})
}

// worth is what an expression comes to; what is wrong with it is met at that
// key.
func (s *slow) worth(x api.Expr, key ...int) int {
	n, f := number.Eval(x, s.env...)
	if f != (api.Fault{}) {
		s.wrong(f, key...)
	}
	return n
}

func (s *slow) add(way string, shape api.Shape) {
	for i, part := range shape.Parts {
		s.add(fmt.Sprint(way, ".", i), part)
	}
	s.shapes[way] = shape
	if shape.Kind != api.SName {
		s.ways = append(s.ways, way)
	}
}

// behind is the way to the code for which another way stands.
func (s *slow) behind(way string) string {
	for s.shapes[way].Kind == api.SName {
		way = s.shapes[way].Name
	}
	return way
}

func (s *slow) place(way string) int { return slices.Index(s.ways, s.behind(way)) }

// numbers are those of a shape, without a word on what is wrong with them.
func (s *slow) numbers(shape api.Shape) []int {
	var made []int
	for _, x := range slices.Concat(append(slices.Clone(shape.Rows), shape.Args)...) {
		n, _ := number.Eval(x, s.env...)
		made = append(made, n)
	}
	return made
}

const plenty = 1000000

// size is how many blocks there are, and data blocks; at most plenty.
func (s *slow) size(way string) (n, k int) {
	way = s.behind(way)
	shape := s.shapes[way]
	switch shape.Kind {
	case api.SMatrix:
		return len(shape.Rows), len(shape.Rows[0])
	case api.SProduct, api.SJoin:
		n, k = s.size(way + ".0")
		second, data := s.size(way + ".1")
		if shape.Kind == api.SJoin {
			return min(plenty, n+second), min(plenty, k+data)
		}
		return min(plenty, n*second), min(plenty, k*data)
	}
	l := s.numbers(shape)
	for _, part := range l {
		n += part
	}
	return min(plenty, n), min(plenty, l[0])
}

// asked tells whether a shape is as its kind asks.
func (s *slow) asked(shape api.Shape) bool {
	l := s.numbers(shape)
	switch shape.Kind {
	case api.SReed, api.SCross:
		return l[0] > 0 && l[1] >= 0
	case api.SLocal, api.SPyramid:
		return l[0] > 0 && l[1] > 0 && l[0]/l[1]*l[1] == l[0] && l[2] >= 0
	case api.SMatrix:
		for _, row := range shape.Rows {
			if len(row) != len(shape.Rows[0]) || len(row) > len(shape.Rows) {
				return false
			}
		}
		return slices.Min(l) >= 0 && slices.Max(l) < 256
	}
	return true
}

func (s *slow) code(i int, t api.Item) {
	from := len(s.ways)
	s.add(t.Name, t.Shape)
	for j, way := range s.ways[from:] {
		shape := s.shapes[way]
		for at, x := range slices.Concat(append(slices.Clone(shape.Rows), shape.Args)...) {
			s.worth(x, i, 1, j, 0, at)
		}
		if !s.asked(shape) {
			s.wrong(fault(api.ErrType, shape.Line, shape.Col), i, 1, j, 1)
		}
		if n, _ := s.size(way); n > 64 {
			s.wrong(fault(api.ErrLimit, shape.Line, shape.Col), i, 1, j, 2)
		}
	}
}

func (s *slow) other(i int, t api.Item, c *api.Core) {
	if t.Kind == api.IDomains {
		c.Domains = s.worth(t.Value, i, 1)
		if c.Domains < 1 {
			s.wrong(fault(api.ErrType, t.Line, t.Col), i, 2)
		} else if c.Domains > 64 {
			s.wrong(fault(api.ErrLimit, t.Line, t.Col), i, 3)
		}
	}
	if t.Kind == api.ITolerate {
		if c.Tolerate = s.worth(t.Value, i, 1); c.Tolerate < 0 {
			s.wrong(fault(api.ErrType, t.Line, t.Col), i, 2)
		}
	}
	if t.Place == api.PSpiral {
		if c.Step = s.worth(t.Value, i, 1); c.Step < 1 {
			s.wrong(fault(api.ErrType, t.Line, t.Col), i, 2)
		}
	}
	for j, x := range t.List {
		n := s.worth(x, i, 1, j)
		if c.List = append(c.List, n); n < 0 {
			s.wrong(fault(api.ErrType, x.Line, x.Col), i, 2, j)
		}
	}
	c.Place = max(c.Place, t.Place)
}

// items are those of a kind.
func items(l []api.Item, kind api.ItemKind) []api.Item {
	return slices.DeleteFunc(slices.Clone(l), func(t api.Item) bool { return t.Kind != kind })
}

func (s *slow) whole(l []api.Item, c *api.Core) {
	const end = api.MaxItems
	use := items(l, api.IUse)
	if len(use) == 0 {
		s.wrong(fault(api.ErrType, 1, 1), end, 0)
		return
	}
	n, _ := s.size(use[0].Name)
	c.Use = s.place(use[0].Name)
	if len(items(l, api.IDomains)) == 0 {
		c.Domains = n
	}
	for _, t := range items(l, api.IPlace) {
		if t.Place == api.PList && len(t.List) != n {
			s.wrong(fault(api.ErrType, t.Line, t.Col), end, 1)
		}
		for j, x := range t.List {
			if c.List[j] >= c.Domains {
				s.wrong(fault(api.ErrType, x.Line, x.Col), end, 2, j)
			}
		}
	}
	for _, t := range items(l, api.ITolerate) {
		if c.Tolerate > n {
			s.wrong(fault(api.ErrType, t.Line, t.Col), end, 3)
		} else if c.Tolerate >= 0 && n <= 64 && sets(n, c.Tolerate) > 16384 {
			s.wrong(fault(api.ErrLimit, t.Line, t.Col), end, 4)
		}
	}
	c.Place = max(c.Place, api.PRow)
}

func slowCheck(l []api.Item) (api.Core, api.Fault) {
	if _, f := names.Table(l...); f != (api.Fault{}) {
		return api.Core{}, f
	}
	s, c := &slow{shapes: map[string]api.Shape{}}, api.Core{}
	for i, t := range l {
		switch t.Kind {
		case api.IConst:
			s.env = append(s.env, api.Const{Name: t.Name, N: s.worth(t.Value, i, 1)})
			continue
		case api.ICode:
			s.code(i, t)
			continue
		}
		if len(items(l[:i], t.Kind)) > 0 {
			s.wrong(fault(api.ErrType, t.Line, t.Col), i, 0)
			continue
		}
		s.other(i, t, &c)
	}
	s.whole(l, &c)
	if len(s.complaints) > 0 {
		return api.Core{}, slices.MinFunc(s.complaints, func(a, b complaint) int { return slices.Compare(a.key, b.key) }).f
	}
	for _, way := range s.ways {
		c.Codes = append(c.Codes, s.made(way))
	}
	return c, api.Fault{}
}

func (s *slow) made(way string) api.CoreCode {
	shape := s.shapes[way]
	made := api.CoreCode{Kind: shape.Kind}
	made.N, made.K = s.size(way)
	l := append(s.numbers(shape), 0, 0)
	switch shape.Kind {
	case api.SProduct, api.SJoin:
		made.A, made.B = s.place(way+".0"), s.place(way+".1")
	case api.SMatrix:
		made.G = api.Matrix{Rows: made.N, Cols: made.K}
		for _, n := range l[:made.N*made.K] {
			made.G.Data = append(made.G.Data, byte(n))
		}
	default:
		made.A, made.B, made.C = l[0], l[1], l[2]
	}
	return made
}

// exprs are all expressions of the items, to be changed.
func exprs(l []api.Item) []*api.Expr {
	var made []*api.Expr
	var inList func(l []api.Expr)
	inList = func(l []api.Expr) {
		for i := range l {
			made = append(made, &l[i])
			inList(l[i].L)
		}
	}
	for i := range l {
		if l[i].Value.Kind != api.NoExpr {
			made = append(made, &l[i].Value)
			inList(l[i].Value.L)
		}
		inList(l[i].List)
		for _, s := range shapes(l[i : i+1]) {
			inList(s.Args)
			for _, row := range s.Rows {
				inList(row)
			}
		}
	}
	return made
}

// shapes are all shapes of the items, to be changed.
func shapes(l []api.Item) []*api.Shape {
	var made []*api.Shape
	var in func(s *api.Shape)
	in = func(s *api.Shape) {
		made = append(made, s)
		for i := range s.Parts {
			in(&s.Parts[i])
		}
	}
	for i := range l {
		if l[i].Kind == api.ICode {
			in(&l[i].Shape)
		}
	}
	return made
}

// spoilt is a description with something else in it.
func (s *source) spoilt(l []api.Item) []api.Item {
	switch kind := s.below(12); {
	case kind < 5:
		if all := exprs(l); len(all) > 0 {
			*one(s, all) = api.Expr{Kind: api.ENumber, N: one(s, []int{0, 1, 2, 3, 63, 64, 65, 255, 256, api.MaxNumber}), Line: 70, Col: s.below(9)}
		}
	case kind < 6:
		if all := exprs(l); len(all) > 0 {
			x := one(s, all)
			*x = api.Expr{Kind: one(s, []api.ExprKind{api.EDiv, api.ESub, api.EMul}), L: []api.Expr{*x, *x}, Line: 71, Col: s.below(9)}
		}
	case kind < 7:
		i, j := s.below(len(l)), s.below(len(l))
		l[i], l[j] = l[j], l[i]
	case kind < 8:
		i, more := s.below(len(l)+1), one(s, l)
		more.Line = 72
		l = slices.Insert(l, i, more)
	case kind < 9:
		i := s.below(len(l))
		l = slices.Delete(l, i, i+1)
	default:
		if all := shapes(l); len(all) > 0 {
			s.reshape(one(s, all), *one(s, all))
		}
	}
	return l
}

// reshape changes a shape's rows, or puts another in its place.
func (s *source) reshape(to *api.Shape, from api.Shape) {
	if to.Kind == api.SMatrix && s.below(2) == 0 {
		i := s.below(len(to.Rows))
		to.Rows[i] = to.Rows[i][:1+s.below(len(to.Rows[i]))]
		return
	}
	if copied, e := tree.Strip(api.Item{Kind: api.ICode, Name: "q", Shape: from}); e == api.OK && tree.MayShape(from) {
		copied[0].Shape.Line, copied[0].Shape.Col = 73, s.below(9)
		*to = copied[0].Shape
	}
}

// Descriptions in which something was changed, again and again.
func TestAnyDescriptions(t *testing.T) {
	const all = 3000
	met := map[api.Errno]int{}
	for seed := range all {
		text, _ := written(seed)
		l, s := read(t, text), seeded(seed+1000000)
		for range 6 {
			want, wf := slowCheck(l)
			if got, f := typing.Check(l...); shown(got) != shown(want) || f != wf {
				told, _ := tree.Text(l...)
				t.Fatalf("seed %d: Check(%s) = %s, %v; want %s, %v", seed, short(told), short(shown(got)), f, short(shown(want)), wf)
			}
			met[wf.Code]++
			if l = s.spoilt(l); len(l) == 0 {
				break
			}
		}
	}
	for _, e := range []api.Errno{api.OK, api.ErrType, api.ErrLimit, api.ErrZero, api.ErrName, api.ErrTwice} {
		if met[e] < all/50 {
			t.Errorf("%v is met %d times alone", e, met[e])
		}
	}
}
