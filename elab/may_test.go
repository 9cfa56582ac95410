package elab_test

import (
	"fmt"
	"math"
	"slices"
	"testing"

	"recoup/api"
	"recoup/elab"
)

// P17.3: which layouts may be.

func mayBe(t *testing.T, what string, want bool, l api.Layout) {
	t.Helper()
	if got := elab.May(l); got != want {
		t.Errorf("May of %s = %v; want %v: %s", what, got, want, short(shown(l)))
	}
}

// placed is a layout of a code, each block in a domain of its own.
func placed(c api.Code) api.Layout {
	l := api.Layout{Code: c, Domains: max(1, c.G.Rows)}
	for b := range max(0, min(c.G.Rows, 70)) {
		l.Homes = append(l.Homes, b)
	}
	return l
}

// laid is a layout of six blocks with two groups.
func laid() api.Layout {
	l := placed(slowLocal(4, 2, 0))
	l.Homes, l.Domains, l.Tolerate = []int{0, 3, 1, 3, 2, 0}, 4, 2
	return l
}

// relaid is that layout with something else in it.
func relaid(turn func(l *api.Layout)) api.Layout {
	l := laid()
	turn(&l)
	return l
}

func TestMayKnown(t *testing.T) {
	mayBe(t, "a layout", true, laid())
	mayBe(t, "nothing", false, api.Layout{})
	mayBe(t, "a code of one block", true, api.Layout{Code: code(of(1, 9)), Homes: []int{0}, Domains: 1})
	mayBe(t, "a code of one block that may be lost", true, api.Layout{Code: code(of(1, 9)), Homes: []int{0}, Domains: 1, Tolerate: 1})
	mayBe(t, "a code of one block that is 0", false, api.Layout{Code: code(of(1, 0)), Homes: []int{0}, Domains: 1})
	mayBe(t, "a group that may not be", false, api.Layout{Code: code(of(1, 1, 1), set(0)), Homes: []int{0, 1}, Domains: 2})
	mayBe(t, "a group that may be", true, api.Layout{Code: code(of(1, 1, 1), set(0, 1)), Homes: []int{0, 1}, Domains: 2})
}

func TestMayOfHomes(t *testing.T) {
	for count := range 70 {
		mayBe(t, fmt.Sprint(count, " homes"), count == 6, relaid(func(l *api.Layout) { l.Homes = make([]int, count) }))
	}
	for b := range 6 {
		for _, home := range []int{0, 1, 2, 3} {
			mayBe(t, fmt.Sprint("the home ", home, " of ", b), true, relaid(func(l *api.Layout) { l.Homes[b] = home }))
		}
		for _, home := range []int{-1, 4, 5, 64, math.MaxInt, math.MinInt} {
			mayBe(t, fmt.Sprint("the home ", home, " of ", b), false, relaid(func(l *api.Layout) { l.Homes[b] = home }))
		}
	}
}

func TestMayOfDomains(t *testing.T) {
	zeros := func(l *api.Layout) { l.Homes = make([]int, 6) }
	for domains, want := range map[int]bool{1: true, 2: true, 63: true, 64: true, 0: false, 65: false, -1: false, math.MaxInt: false, math.MinInt: false} {
		mayBe(t, fmt.Sprint(domains, " domains"), want, relaid(func(l *api.Layout) { zeros(l); l.Domains = domains }))
	}
	for domains := 1; domains <= 64; domains++ {
		for home := -1; home <= 65; home++ {
			mayBe(t, fmt.Sprint("the home ", home, " of ", domains, " domains"), home >= 0 && home < domains, relaid(func(l *api.Layout) {
				zeros(l)
				l.Domains, l.Homes[5] = domains, home
			}))
		}
	}
}

// As many sets as MaxPatterns, and more.
func TestMayOfTolerances(t *testing.T) {
	for n := 1; n <= api.MaxSide; n++ {
		l := placed(code(slow(n, 1, func(i, _ int) byte { return byte(i + 1) })))
		for tolerate := -1; tolerate <= n+1; tolerate++ {
			l.Tolerate = tolerate
			mayBe(t, fmt.Sprint(tolerate, " of ", n), tolerate >= 0 && tolerate <= n && sets(n, tolerate) <= api.MaxPatterns, l)
		}
		for _, tolerate := range []int{math.MaxInt, math.MinInt, 65, 1 << 40} {
			l.Tolerate = tolerate
			mayBe(t, fmt.Sprint(tolerate, " of ", n), false, l)
		}
	}
	if sets(14, 14) != api.MaxPatterns || sets(15, 7) != api.MaxPatterns {
		t.Errorf("%d and %d sets", sets(14, 14), sets(15, 7))
	}
}

func TestMayOfGenerators(t *testing.T) {
	for _, rows := range []int{0, 1, 2, 3, 32, 63, 64, 65} {
		for _, cols := range []int{0, 1, 2, 3, 32, 63, 64, 65} {
			top := slow(rows, cols, func(i, j int) byte { return oneIf(i == j) })
			want := cols >= 1 && rows >= cols && rows <= 64
			mayBe(t, fmt.Sprint(rows, " by ", cols), want, placed(code(top)))
			mayBe(t, fmt.Sprint("noughts ", rows, " by ", cols), false, placed(code(noughts(rows, cols))))
			if cols > 0 {
				for _, at := range []int{0, cols / 2, cols - 1} {
					less := slow(rows, cols, func(i, j int) byte { return oneIf(i == j && j != at) })
					mayBe(t, fmt.Sprint("a rank that is one less, ", rows, " by ", cols), false, placed(code(less)))
				}
			}
		}
	}
	// The rank comes from the last rows alone.
	low := slow(9, 3, func(i, j int) byte { return oneIf(i-6 == j) })
	mayBe(t, "the identity below noughts", true, placed(code(low)))
	low.Data[len(low.Data)-1] = 0
	mayBe(t, "one less below noughts", false, placed(code(low)))
}

func TestMayOfMatricesThatAreNotRight(t *testing.T) {
	for _, g := range []api.Matrix{
		{Rows: 2, Cols: 1}, {Rows: 2, Cols: 1, Data: []byte{1}}, {Rows: 2, Cols: 1, Data: []byte{1, 1, 1}},
		{Rows: -1, Cols: -1, Data: []byte{1}}, {Rows: -2, Cols: 1}, {Rows: 2, Cols: -1, Data: []byte{1, 1}}, {Rows: 2, Cols: math.MinInt},
		{Rows: 1 << 32, Cols: 1 << 32}, {Rows: math.MaxInt, Cols: math.MaxInt, Data: []byte{1}}, {Rows: math.MinInt, Cols: 2}, {Rows: math.MinInt, Cols: math.MinInt},
		{Rows: math.MaxInt, Cols: 1, Data: []byte{1, 1}}, {Rows: 65, Cols: 1, Data: make([]byte, 65)},
	} {
		mayBe(t, "a matrix that is not right", false, placed(code(g)))
		mayBe(t, "a matrix that is not right", false, api.Layout{Code: code(g), Homes: []int{0, 0}, Domains: 1})
		mayBe(t, "a matrix that is not right", false, api.Layout{Code: code(g, 0), Homes: []int{0}, Domains: 1, Tolerate: math.MaxInt})
		mayBe(t, "a matrix that is not right", false, api.Layout{Code: code(g), Domains: 1})
	}
}

func TestMayOfGroups(t *testing.T) {
	good := []api.Set{0, set(0, 1, 4), set(2, 3, 5), set(0, 1, 2, 3, 4, 5)}
	for s := range api.Set(1) << 7 {
		want := slices.Contains(good, s)
		mayBe(t, fmt.Sprint("the group ", s), want, relaid(func(l *api.Layout) { l.Code.Groups = []api.Set{s} }))
		mayBe(t, fmt.Sprint("the group ", s, " behind others"), want, relaid(func(l *api.Layout) { l.Code.Groups = append(l.Code.Groups, s) }))
	}
	mayBe(t, "a group of a block that is not there", false, relaid(func(l *api.Layout) { l.Code.Groups[1] |= 1 << 63 }))
	mayBe(t, "no groups", true, relaid(func(l *api.Layout) { l.Code.Groups = nil }))
	mayBe(t, "many groups", true, relaid(func(l *api.Layout) { l.Code.Groups = slices.Repeat(good, api.MaxPatterns) }))
}

// Whatever is turned, and however many things at once.
func TestMayOfAnyLayouts(t *testing.T) {
	met := map[bool]int{}
	for seed := range 3000 {
		_, c := written(seed)
		l, e := slowBuild(c)
		if e != api.OK {
			l = placed(slowCodes(c)[c.Use])
		}
		mayBe(t, fmt.Sprint("the layout of seed ", seed), e == api.OK, l)
		s := seeded(seed + 1000000)
		for range 3 {
			s.change(&l)
			want := slowMay(l)
			met[want]++
			mayBe(t, fmt.Sprint("a changed layout of seed ", seed), want, l)
		}
	}
	if met[true] < 1000 || met[false] < 1000 {
		t.Errorf("%d of the layouts may be, %d may not", met[true], met[false])
	}
}

// change makes one thing of a layout another one.
func (s *source) change(l *api.Layout) {
	edges := []int{0, 1, 2, 63, 64, 65, -1, l.Domains - 1, l.Domains, l.Code.G.Rows, l.Code.G.Rows + 1, math.MaxInt, math.MinInt}
	switch s.below(8) {
	case 0:
		l.Domains = one(s, edges)
	case 1:
		l.Tolerate = one(s, edges)
	case 2:
		if len(l.Homes) > 0 {
			l.Homes[s.below(len(l.Homes))] = one(s, edges)
		}
	case 3:
		l.Homes = append(l.Homes, 0)
	case 4:
		l.Homes = l.Homes[:max(0, len(l.Homes)-s.below(2))]
	case 5:
		if data := l.Code.G.Data; len(data) > 0 {
			data[s.below(len(data))] = one(s, []byte{0, 1, byte(s.below(256))})
		}
	case 6:
		if s.below(2) == 0 && len(l.Code.Groups) > 0 {
			l.Code.Groups[s.below(len(l.Code.Groups))] ^= 1 << s.below(max(1, l.Code.G.Rows))
		} else {
			l.Code.Groups = append(l.Code.Groups, api.Set(s.below(64)))
		}
	case 7:
		l.Code.Groups = l.Code.Groups[:len(l.Code.Groups)/2]
	}
}
