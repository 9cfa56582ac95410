package shape_test

import (
	"fmt"
	"testing"

	"recoup/api"
	"recoup/shape"
)

// laid are the calls that make a code of two, what they make, and how many
// blocks and groups that has.
type laid struct {
	call           func(a, b api.Code) (api.Code, api.Errno)
	model          func(a, b api.Code) api.Code
	blocks, groups func(a, b api.Code) int
}

func product() laid {
	return laid{
		shape.Product, slowProduct,
		func(a, b api.Code) int { return a.G.Rows * b.G.Rows },
		func(a, b api.Code) int { return len(a.Groups)*b.G.Rows + a.G.Rows*len(b.Groups) },
	}
}

func join() laid {
	return laid{
		shape.Join, slowJoin,
		func(a, b api.Code) int { return a.G.Rows + b.G.Rows },
		func(a, b api.Code) int { return len(a.Groups) + len(b.Groups) },
	}
}

func bothLaid() map[string]laid {
	return map[string]laid{"Product": product(), "Join": join()}
}

// asked holds a call of two codes that may be against the model.
func asked(t *testing.T, name string, c laid, a, b api.Code) {
	t.Helper()
	blocks, groups := c.blocks(a, b), c.groups(a, b)
	what := fmt.Sprintf("%s of %d x %d with %d groups and %d x %d with %d", name, a.G.Rows, a.G.Cols, len(a.Groups), b.G.Rows, b.G.Cols, len(b.Groups))
	got, e := c.call(a, b)
	if blocks > 64 || groups > 16384 {
		fails(t, what, got, e, api.ErrLimit)
		return
	}
	is(t, what, got, e, c.model(a, b))
}

// P16.5, P16.6
func TestLaid(t *testing.T) {
	for name, c := range bothLaid() {
		for _, a := range someCodes() {
			for _, b := range someCodes() {
				asked(t, name, c, a, b)
			}
		}
	}
}

// P16.5, P16.6: of products and joins again, up to as many blocks as may be.
func TestLaidAgain(t *testing.T) {
	made, refused := 0, 0
	for seed := range 300 {
		from := seeded(seed)
		all := someCodes()
		for range 6 {
			name, c := "Join", join()
			if from.below(2) == 0 {
				name, c = "Product", product()
			}
			a, b := all[from.below(len(all))], all[len(all)-1-from.below(3)]
			asked(t, name, c, a, b)
			if got, e := c.call(a, b); e == api.OK {
				all = append(all, got)
				made++
			} else {
				refused++
			}
		}
	}
	if made < 500 || refused < 100 {
		t.Errorf("%d made, %d refused", made, refused)
	}
}

// P16.5, P16.6: just MaxSide blocks, and more.
func TestLaidAtTheLimit(t *testing.T) {
	for name, c := range bothLaid() {
		for _, rows := range []int{1, 2, 3, 4, 5, 7, 8, 9, 13, 16, 21, 31, 32, 33, 62, 63, 64} {
			for other := 1; other <= 64; other++ {
				for _, cols := range []int{1, min(rows, other)} {
					a := code(filled(rows, cols, 1))
					b := code(stacked(filled(other-1, 1, 2), of(1, 0)), set(other-1), 0)
					asked(t, name, c, a, b)
					asked(t, name, c, b, a)
				}
			}
		}
		asked(t, name, c, code(identity(8)), code(identity(8)))
		asked(t, name, c, code(identity(64)), code(identity(1)))
		asked(t, name, c, code(identity(1)), code(identity(64)))
		asked(t, name, c, code(identity(32)), code(identity(32)))
		asked(t, name, c, code(identity(64)), code(identity(64)))
		asked(t, name, c, slowLocal(4, 2, 2), slowPyramid(4, 2, 2))
		asked(t, name, c, slowLocal(30, 2, 0), slowPyramid(30, 2, 0))
		asked(t, name, c, slowLocal(30, 2, 0), slowPyramid(30, 2, 1))
	}
	// A block more than there may be, in each way in which a product has 65.
	for _, n := range [][2]int{{5, 13}, {13, 5}} {
		got, e := shape.Product(code(noughts(n[0], 1)), code(noughts(n[1], 1)))
		fails(t, "Product of 65 blocks", got, e, api.ErrLimit)
	}
	for rows := 1; rows <= 64; rows++ {
		got, e := shape.Join(code(noughts(rows, 1)), code(noughts(65-rows, 1)))
		fails(t, "Join of 65 blocks", got, e, api.ErrLimit)
	}
}

// manyGroups is a code of so many groups, of which a few differ.
func manyGroups(rows, count int) api.Code {
	all := set(rising(0, rows)...)
	groups := make([]api.Set, count)
	for i := range groups {
		groups[i] = []api.Set{all, 0, set(0), set(rows - 1)}[i%4]
	}
	return code(noughts(rows, 1), groups...)
}

// P16.5, P16.6: just as many groups as there may be, one less, and one more.
func TestLaidWithManyGroups(t *testing.T) {
	for _, n := range []struct{ rows, groups, others, othersGroups int }{
		{1, 16384, 1, 0}, {1, 0, 1, 16384}, {1, 16385, 1, 0}, {1, 0, 1, 16385}, {1, 16383, 1, 0},
		{1, 8192, 1, 8192}, {1, 8193, 1, 8192}, {1, 8192, 1, 8193}, {1, 8191, 1, 8192},
		{1, 16384, 1, 1}, {1, 1, 1, 16384}, {1, 16384, 1, 16384}, {1, 100000, 1, 0}, {1, 0, 1, 100000},
		{2, 5460, 3, 2}, {2, 5461, 3, 1}, {2, 5461, 3, 0}, {3, 2, 2, 5460}, {3, 1, 2, 5461}, {3, 0, 2, 5461}, {2, 5462, 3, 0},
		{8, 1024, 8, 1024}, {8, 1025, 8, 1024}, {8, 1024, 8, 1025}, {8, 1025, 8, 1023}, {8, 2048, 8, 0}, {8, 2049, 8, 0},
		{1, 256, 64, 0}, {1, 257, 64, 0}, {1, 0, 64, 16384}, {1, 256, 64, 1}, {1, 255, 64, 64}, {1, 255, 64, 65},
		{64, 0, 1, 256}, {64, 0, 1, 257}, {64, 16384, 1, 0}, {64, 1, 1, 256}, {64, 64, 1, 255}, {64, 65, 1, 255},
		{63, 16384, 1, 0}, {63, 16383, 1, 1}, {63, 16384, 1, 1}, {1, 16384, 63, 0}, {1, 16384, 63, 1},
		// Too many of both.
		{64, 16385, 2, 0}, {9, 20000, 8, 20000},
	} {
		for name, c := range bothLaid() {
			asked(t, name, c, manyGroups(n.rows, n.groups), manyGroups(n.others, n.othersGroups))
		}
	}
}

// P16.5, P16.6: a code that may not be, as the first and as the second of two,
// ahead of too many blocks or groups.
func TestLaidOfWhatMayNotBe(t *testing.T) {
	good := append(someCodes()[:8], code(identity(64)), manyGroups(1, 16384), manyGroups(64, 20000))
	for name, c := range bothLaid() {
		for _, bad := range badCodes() {
			for _, other := range good {
				got, e := c.call(bad, other)
				fails(t, name+" of one that may not be, first", got, e, api.ErrShape)
				got, e = c.call(other, bad)
				fails(t, name+" of one that may not be, second", got, e, api.ErrShape)
			}
			got, e := c.call(bad, bad)
			fails(t, name+" of two that may not be", got, e, api.ErrShape)
		}
	}
}

func TestLaidThatAreKnown(t *testing.T) {
	pair, plain := code(of(1, 1, 1), set(0, 1)), code(of(1, 1, 2))
	three := code(of(2, 1, 0, 0, 1, 1, 1), set(0, 1, 2))
	for _, c := range []struct {
		what       string
		call       func(a, b api.Code) (api.Code, api.Errno)
		a, b, want api.Code
	}{
		{"plain ones", shape.Product, code(of(1, 1, 1)), plain, code(of(1, 1, 2, 1, 2))},
		{"pairs", shape.Product, pair, pair, code(of(1, 1, 1, 1, 1), set(0, 2), set(1, 3), set(0, 1), set(2, 3))},
		{"a pair and a plain one", shape.Product, pair, plain, code(of(1, 1, 2, 1, 2), set(0, 2), set(1, 3))},
		{"a plain one and a pair", shape.Product, plain, pair, code(of(1, 1, 1, 2, 2), set(0, 1), set(2, 3))},
		{"a pair and three", shape.Product, pair, three, code(of(2, 1, 0, 0, 1, 1, 1, 1, 0, 0, 1, 1, 1), set(0, 3), set(1, 4), set(2, 5), set(0, 1, 2), set(3, 4, 5))},
		{"three and a pair", shape.Product, three, pair, code(of(2, 1, 0, 1, 0, 0, 1, 0, 1, 1, 1, 1, 1), set(0, 2, 4), set(1, 3, 5), set(0, 1), set(2, 3), set(4, 5))},
		{"groups in their order", shape.Product, code(of(1, 0, 0), set(1), 0, set(0)), pair,
			code(of(1, 0, 0, 0, 0), set(2), set(3), 0, 0, set(0), set(1), set(0, 1), set(2, 3))},
		{"groups in their order, joined", shape.Join, code(of(1, 0, 0), set(1), 0, set(0)), code(of(1, 0, 0), set(1), 0, set(0)),
			code(of(2, 0, 0, 0, 0, 0, 0, 0, 0), set(1), 0, set(0), set(3), 0, set(2))},
		{"a pair and one", shape.Join, pair, code(of(1, 3)), code(of(2, 1, 0, 1, 0, 0, 3), set(0, 1))},
		{"one and a pair", shape.Join, code(of(1, 3)), pair, code(of(2, 3, 0, 0, 1, 0, 1), set(1, 2))},
		{"a pair and three", shape.Join, pair, three, code(of(3, 1, 0, 0, 1, 0, 0, 0, 1, 0, 0, 0, 1, 0, 1, 1), set(0, 1), set(2, 3, 4))},
		{"plain ones", shape.Join, plain, plain, code(of(2, 1, 0, 2, 0, 0, 1, 0, 2))},
	} {
		got, e := c.call(c.a, c.b)
		is(t, c.what, got, e, c.want)
	}
	local, _ := shape.Local(1, 1, 0)
	last, _ := shape.Explicit(of(1, 3))
	got, e := shape.Join(local, last)
	is(t, "Join(Local(1, 1, 0), Explicit(3))", got, e, code(of(2, 1, 0, 1, 0, 0, 3), set(0, 1)))
}
