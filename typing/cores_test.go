package typing_test

import (
	"fmt"
	"slices"
	"strings"
	"testing"

	"recoup/api"
)

// P14.1: descriptions that are as the rules ask, and what they say.

func TestCoresOfExamples(t *testing.T) {
	coreIs(t, "code x = reed(4, 2); use x;", api.Core{Codes: []api.CoreCode{{Kind: api.SReed, A: 4, B: 2, N: 6, K: 4}}, Use: 0, Domains: 6, Place: api.PRow, Tolerate: 0})
	coreIs(t, "code x = product(reed(2, 1), cross(1, 1)); use x; tolerate 2;", api.Core{
		Codes: []api.CoreCode{reed(2, 1), two(api.SCross, 1, 1), {Kind: api.SProduct, A: 0, B: 1, N: 6, K: 2}},
		Use:   2, Domains: 6, Place: api.PRow, Tolerate: 2})
	coreIs(t, "code x = reed(1, 1); code y = x; use y; domains 3; place list [2, 0];",
		api.Core{Codes: []api.CoreCode{reed(1, 1)}, Use: 0, Domains: 3, Place: api.PList, List: list(2, 0)})
}

func TestEachShape(t *testing.T) {
	for text, want := range map[string]api.CoreCode{
		"reed(4, 2)":              {Kind: api.SReed, A: 4, B: 2, N: 6, K: 4},
		"cross(4, 2)":             {Kind: api.SCross, A: 4, B: 2, N: 6, K: 4},
		"local(6, 3, 2)":          {Kind: api.SLocal, A: 6, B: 3, C: 2, N: 11, K: 6},
		"pyramid(6, 2, 1)":        {Kind: api.SPyramid, A: 6, B: 2, C: 1, N: 9, K: 6},
		"matrix [7]":              {Kind: api.SMatrix, G: api.Matrix{Rows: 1, Cols: 1, Data: []byte{7}}, N: 1, K: 1},
		"matrix [1; 0; 3]":        {Kind: api.SMatrix, G: api.Matrix{Rows: 3, Cols: 1, Data: []byte{1, 0, 3}}, N: 3, K: 1},
		"matrix [1, 2; 3, 4]":     {Kind: api.SMatrix, G: api.Matrix{Rows: 2, Cols: 2, Data: []byte{1, 2, 3, 4}}, N: 2, K: 2},
		"matrix [1,2; 3,4; 5, 6]": {Kind: api.SMatrix, G: api.Matrix{Rows: 3, Cols: 2, Data: []byte{1, 2, 3, 4, 5, 6}}, N: 3, K: 2},
	} {
		coreIs(t, "code x = "+text+"; use x;", used(want))
	}
	coreIs(t, "code x = product(reed(4, 2), local(2, 1, 1)); use x;", used(reed(4, 2), three(api.SLocal, 2, 1, 1), api.CoreCode{Kind: api.SProduct, A: 0, B: 1, N: 24, K: 8}))
	coreIs(t, "code x = join(reed(4, 2), local(2, 1, 1)); use x;", used(reed(4, 2), three(api.SLocal, 2, 1, 1), api.CoreCode{Kind: api.SJoin, A: 0, B: 1, N: 10, K: 6}))
}

// Of a shape its parts stand from the left, each behind its own parts.
func TestPartsStandAhead(t *testing.T) {
	coreIs(t, "code x = join(product(reed(1, 1), cross(2, 1)), join(local(2, 2, 0), product(matrix [1; 2], pyramid(1, 1, 1)))); use x;", used(
		reed(1, 1), two(api.SCross, 2, 1), pair(api.SProduct, 0, 1, 6, 2),
		three(api.SLocal, 2, 2, 0), rows([]byte{1}, []byte{2}), three(api.SPyramid, 1, 1, 1), pair(api.SProduct, 4, 5, 6, 1),
		pair(api.SJoin, 3, 6, 10, 3), pair(api.SJoin, 2, 7, 16, 5)))
	coreIs(t, "code x = join(join(join(reed(1, 0), reed(2, 0)), reed(3, 0)), reed(4, 0)); use x;", used(
		reed(1, 0), reed(2, 0), pair(api.SJoin, 0, 1, 3, 3), reed(3, 0), pair(api.SJoin, 2, 3, 6, 6), reed(4, 0), pair(api.SJoin, 4, 5, 10, 10)))
	coreIs(t, "code x = join(reed(1, 0), join(reed(2, 0), join(reed(3, 0), reed(4, 0)))); use x;", used(
		reed(1, 0), reed(2, 0), reed(3, 0), reed(4, 0), pair(api.SJoin, 2, 3, 7, 7), pair(api.SJoin, 1, 4, 9, 9), pair(api.SJoin, 0, 5, 10, 10)))
}

// Equal parts are codes of their own.
func TestPartsThatAreAlike(t *testing.T) {
	coreIs(t, "code x = product(reed(2, 1), reed(2, 1)); code y = reed(2, 1); use y;", used(reed(2, 1), reed(2, 1), pair(api.SProduct, 0, 1, 9, 4), reed(2, 1)))
}

func TestNamesOfCodes(t *testing.T) {
	ahead := "code x = reed(2, 1); code y = join(cross(1, 1), matrix [1]); "
	codes := []api.CoreCode{reed(2, 1), two(api.SCross, 1, 1), rows([]byte{1}), pair(api.SJoin, 1, 2, 3, 2)}
	with := func(use int, more ...api.CoreCode) api.Core {
		all := append(slices.Clone(codes), more...)
		return api.Core{Codes: all, Use: use, Domains: all[use].N, Place: api.PRow}
	}
	coreIs(t, ahead+"use x;", with(0))
	coreIs(t, ahead+"use y;", with(3))
	coreIs(t, ahead+"code z = y; code w = z; code v = x; use w;", with(3))
	coreIs(t, ahead+"code z = y; code w = z; code v = x; use v;", with(0))
	coreIs(t, ahead+"code z = product(x, x); use z;", with(4, pair(api.SProduct, 0, 0, 9, 4)))
	coreIs(t, ahead+"code z = product(y, x); use z;", with(4, pair(api.SProduct, 3, 0, 9, 4)))
	coreIs(t, ahead+"code z = join(x, product(y, reed(1, 3))); use z;", with(6, reed(1, 3), pair(api.SProduct, 3, 4, 12, 2), pair(api.SJoin, 0, 5, 15, 4)))
	coreIs(t, ahead+"code z = join(product(y, y), x); code w = join(z, z); use w; code v = reed(3, 0);",
		with(6, pair(api.SProduct, 3, 3, 9, 4), pair(api.SJoin, 4, 0, 12, 6), pair(api.SJoin, 5, 5, 24, 12), reed(3, 0)))
}

func TestNumbersAreWorkedOut(t *testing.T) {
	coreIs(t, "const a = 2; const b = - a; code x = local(a * a, a, a + b); const c = a - b; domains c * c - 1; use x; place list [a, c, - b, c * c - a, a + 1, a - a]; tolerate c / 3;",
		api.Core{Codes: []api.CoreCode{three(api.SLocal, 4, 2, 0)}, Domains: 15, Place: api.PList, List: list(2, 4, 2, 14, 3, 0), Tolerate: 1})
	coreIs(t, "const a = 250; code x = matrix [a + 5, a % 3; a / 2, - a + a]; use x; place spiral a * a;",
		api.Core{Codes: []api.CoreCode{rows([]byte{255, 1}, []byte{125, 0})}, Domains: 2, Place: api.PSpiral, Step: 62500})
}

// Whether there are domains, a place and a tolerance, or not.
func TestWhatIsNotSaid(t *testing.T) {
	core := func(domains int, place api.PlaceKind, step, tolerate int, l ...int) api.Core {
		return api.Core{Codes: []api.CoreCode{reed(2, 1)}, Domains: domains, Place: place, Step: step, List: l, Tolerate: tolerate}
	}
	for text, want := range map[string]api.Core{
		"":                                  core(3, api.PRow, 0, 0),
		"domains 5;":                        core(5, api.PRow, 0, 0),
		"tolerate 2;":                       core(3, api.PRow, 0, 2),
		"place row;":                        core(3, api.PRow, 0, 0),
		"place spread;":                     core(3, api.PSpread, 0, 0),
		"place spiral 7;":                   core(3, api.PSpiral, 7, 0),
		"place list [2, 0, 2];":             core(3, api.PList, 0, 0, 2, 0, 2),
		"domains 2; place list [1, 1, 0];":  core(2, api.PList, 0, 0, 1, 1, 0),
		"place spread; tolerate 1;":         core(3, api.PSpread, 0, 1),
		"domains 9; place row; tolerate 3;": core(9, api.PRow, 0, 3),
	} {
		coreIs(t, "code x = reed(2, 1); use x;"+text, want)
		coreIs(t, text+"code x = reed(2, 1); use x;", want)
		coreIs(t, "code x = reed(2, 1);"+text+"use x;", want)
	}
}

// Any order of the items that make nothing, as long as the code stands ahead
// of its use.
func TestAnyOrderOfTheItems(t *testing.T) {
	items := []string{"code x = reed(2, 2);", "use x;", "domains 6;", "place list [5, 0, 5, 1];", "tolerate 3;"}
	want := api.Core{Codes: []api.CoreCode{reed(2, 2)}, Domains: 6, Place: api.PList, List: list(5, 0, 5, 1), Tolerate: 3}
	count := 0
	var orders func(l, left []string)
	orders = func(l, left []string) {
		if len(left) == 0 && slices.Index(l, items[0]) < slices.Index(l, items[1]) {
			count++
			coreIs(t, strings.Join(l, " "), want)
		}
		for i := range left {
			orders(append(slices.Clone(l), left[i]), slices.Delete(slices.Clone(left), i, i+1))
		}
	}
	orders(nil, items)
	if count != 60 {
		t.Errorf("%d orders; want 60", count)
	}
}

// Each number of the table at its least and its greatest.
func TestNumbersAtTheirBounds(t *testing.T) {
	for _, l := range [][2]int{{1, 0}, {1, 1}, {1, 63}, {63, 1}, {64, 0}, {63, 0}, {32, 32}, {2, 62}} {
		for _, kind := range []api.ShapeKind{api.SReed, api.SCross} {
			coreIs(t, fmt.Sprintf("code x = %s(%d, %d); use x;", word(kind), l[0], l[1]), used(two(kind, l[0], l[1])))
		}
	}
	for _, l := range [][3]int{{1, 1, 0}, {1, 1, 62}, {63, 1, 0}, {32, 32, 0}, {62, 1, 1}, {62, 2, 0}, {31, 31, 2}, {21, 7, 36}, {6, 1, 1}, {6, 2, 1}, {6, 3, 1}, {6, 6, 1}} {
		for _, kind := range []api.ShapeKind{api.SLocal, api.SPyramid} {
			coreIs(t, fmt.Sprintf("code x = %s(%d, %d, %d); use x;", word(kind), l[0], l[1], l[2]), used(three(kind, l[0], l[1], l[2])))
		}
	}
}

// Products and joins of as many blocks as may be.
func TestPairsAtTheirBounds(t *testing.T) {
	coreIs(t, "code x = product(reed(1, 7), reed(8, 0)); use x;", used(reed(1, 7), reed(8, 0), pair(api.SProduct, 0, 1, 64, 8)))
	coreIs(t, "code x = product(reed(1, 0), reed(60, 4)); use x;", used(reed(1, 0), reed(60, 4), pair(api.SProduct, 0, 1, 64, 60)))
	coreIs(t, "code x = product(reed(7, 2), reed(7, 0)); use x;", used(reed(7, 2), reed(7, 0), pair(api.SProduct, 0, 1, 63, 49)))
	coreIs(t, "code x = join(reed(1, 0), reed(60, 3)); use x;", used(reed(1, 0), reed(60, 3), pair(api.SJoin, 0, 1, 64, 61)))
	coreIs(t, "code x = join(reed(30, 2), reed(31, 1)); use x;", used(reed(30, 2), reed(31, 1), pair(api.SJoin, 0, 1, 64, 61)))
	coreIs(t, "code x = product(reed(1, 0), reed(1, 0)); use x;", used(reed(1, 0), reed(1, 0), pair(api.SProduct, 0, 1, 1, 1)))
	coreIs(t, "code x = join(reed(1, 0), reed(1, 0)); use x;", used(reed(1, 0), reed(1, 0), pair(api.SJoin, 0, 1, 2, 2)))
}

// Matrices of as many rows, of as many columns as may be.
func TestMatricesAtTheirBounds(t *testing.T) {
	for _, side := range [][2]int{{1, 1}, {64, 1}, {64, 64}, {64, 63}, {2, 2}, {63, 63}} {
		var data []byte
		var lines []string
		for i := range side[0] {
			row := make([]string, side[1])
			for j := range row {
				n := (i*37 + j*11) % 256
				data = append(data, byte(n))
				row[j] = fmt.Sprint(n)
			}
			lines = append(lines, strings.Join(row, ", "))
		}
		want := api.CoreCode{Kind: api.SMatrix, G: api.Matrix{Rows: side[0], Cols: side[1], Data: data}, N: side[0], K: side[1]}
		coreIs(t, "code x = matrix ["+strings.Join(lines, "; ")+"]; use x;", used(want))
	}
	coreIs(t, "code x = matrix [0; 255; 256 - 1; - 0]; use x;", used(rows([]byte{0}, []byte{255}, []byte{255}, []byte{0})))
}

func TestOthersAtTheirBounds(t *testing.T) {
	core := func(turn func(c *api.Core), l ...api.CoreCode) api.Core {
		c := used(l...)
		turn(&c)
		return c
	}
	coreIs(t, "code x = reed(2, 1); use x; domains 1;", core(func(c *api.Core) { c.Domains = 1 }, reed(2, 1)))
	coreIs(t, "code x = reed(2, 1); use x; domains 64;", core(func(c *api.Core) { c.Domains = 64 }, reed(2, 1)))
	coreIs(t, "code x = reed(2, 1); use x; place spiral 1;", core(func(c *api.Core) { c.Place, c.Step = api.PSpiral, 1 }, reed(2, 1)))
	coreIs(t, "code x = reed(2, 1); use x; place spiral 2147483647;", core(func(c *api.Core) { c.Place, c.Step = api.PSpiral, api.MaxNumber }, reed(2, 1)))
	coreIs(t, "code x = reed(2, 1); use x; tolerate 0;", used(reed(2, 1)))
	coreIs(t, "code x = reed(2, 1); use x; tolerate 3;", core(func(c *api.Core) { c.Tolerate = 3 }, reed(2, 1)))
	coreIs(t, "code x = reed(1, 0); use x; place list [0]; tolerate 1;", core(func(c *api.Core) { c.Place, c.List, c.Tolerate = api.PList, list(0), 1 }, reed(1, 0)))
	all := make([]int, api.MaxSide)
	for i := range all {
		all[i] = api.MaxSide - 1 - i
	}
	text := strings.ReplaceAll(strings.Trim(fmt.Sprint(all), "[]"), " ", ", ")
	coreIs(t, "code x = reed(60, 4); use x; place list ["+text+"];", core(func(c *api.Core) { c.Place, c.List = api.PList, all }, reed(60, 4)))
}

// As many sets as MaxPatterns: 16384 is all sets of 14, and half of those of
// 15.
func TestAsManySetsAsMayBe(t *testing.T) {
	for _, l := range [][2]int{{14, 14}, {14, 13}, {15, 7}, {64, 2}, {46, 3}, {40, 3}, {1, 1}} {
		n, tolerate := l[0], l[1]
		if sets(n, tolerate) > api.MaxPatterns {
			t.Fatalf("%d sets of %d", sets(n, tolerate), n)
		}
		want := used(reed(1, n-1))
		want.Tolerate = tolerate
		coreIs(t, fmt.Sprintf("code x = reed(1, %d); use x; tolerate %d;", n-1, tolerate), want)
	}
}

// Of each number of blocks: the greatest tolerance of which there are not too
// many sets, and the next one.
func TestEachTolerance(t *testing.T) {
	for n := 1; n <= api.MaxSide; n++ {
		for tolerate := 0; tolerate <= n+1; tolerate++ {
			text := fmt.Sprintf("code x = reed(%d, 0);\nuse x;\n  @tolerate %d;", n, tolerate)
			switch {
			case tolerate > n:
				textFails(t, text, api.ErrType)
			case sets(n, tolerate) > api.MaxPatterns:
				textFails(t, text, api.ErrLimit)
			default:
				want := used(reed(n, 0))
				want.Tolerate = tolerate
				coreIs(t, strings.Replace(text, "@", "", 1), want)
			}
		}
	}
}

func TestAsManyItemsAsMayBe(t *testing.T) {
	var text strings.Builder
	var codes []api.CoreCode
	for i := range api.MaxItems - 1 {
		fmt.Fprintf(&text, "code x%d = reed(%d, 1);\n", i, i+1)
		codes = append(codes, reed(i+1, 1))
	}
	for i := range api.MaxItems - 1 {
		coreIs(t, text.String()+fmt.Sprintf("use x%d;", i), api.Core{Codes: codes, Use: i, Domains: i + 2, Place: api.PRow})
	}
}

// Shapes as deep, and of as many parts, as may be.
func TestGreatShapes(t *testing.T) {
	text, codes := "reed(1, 0)", []api.CoreCode{reed(1, 0)}
	for i := range api.MaxNest - 1 {
		text = "join(" + text + ", reed(1, 0))"
		codes = append(codes, reed(1, 0), pair(api.SJoin, 2*i, 2*i+1, i+2, i+2))
	}
	coreIs(t, "code x = "+text+"; use x;", used(codes...))
	// As many parts as may be: of each item 2047 shapes, and all but one of 1024
	// of them with two expressions.
	text = "reed(1, 0)"
	for range 10 {
		text = "product(" + text + ", " + text + ")"
	}
	c := coreOf(t, "code x = "+text+"; code y = "+strings.Replace(text, "reed(1, 0)", "x", 1)+"; use y;")
	if len(c.Codes) != 4093 || c.Use != 4092 || c.Codes[2047].N != 1 || shown(used(c.Codes[4092])) != shown(used(pair(api.SProduct, 3068, 4091, 1, 1))) {
		t.Errorf("the core of great shapes has %d codes, uses %d", len(c.Codes), c.Use)
	}
}

func TestAnyCores(t *testing.T) {
	kinds, places := map[api.ShapeKind]int{}, map[api.PlaceKind]int{}
	const all = 4000
	for seed := range all {
		text, want := written(seed)
		coreIs(t, text, want)
		for _, c := range want.Codes {
			kinds[c.Kind]++
		}
		places[want.Place]++
	}
	for kind := api.SReed; kind <= api.SMatrix; kind++ {
		if kinds[kind] < all/10 {
			t.Errorf("%s is written %d times alone", word(kind), kinds[kind])
		}
	}
	for place := api.PRow; place <= api.PList; place++ {
		if places[place] < all/10 {
			t.Errorf("the place %d is written %d times alone", place, places[place])
		}
	}
}
