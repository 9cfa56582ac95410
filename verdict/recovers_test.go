package verdict_test

import (
	"slices"
	"testing"

	"recoup/api"
	"recoup/build"
	"recoup/verdict"
)

// P18.1

// judged tells where Recovers and Sources answer otherwise than this.
func judged(t *testing.T, name string, g api.Matrix, lost, sources []int, want bool) {
	t.Helper()
	if ok, e := verdict.Recovers(g, set(lost...)); ok != want || e != api.OK {
		t.Errorf("%s, %d x %d: Recovers of %v = %v, %v, want %v", name, g.Rows, g.Cols, lost, ok, e, want)
	}
	if !want {
		sources = nil
	}
	s, ok, e := verdict.Sources(g, set(lost...))
	if s != set(sources...) || ok != want || e != api.OK {
		t.Errorf("%s, %d x %d: Sources of %v = %v, %v, %v, want %v, %v", name, g.Rows, g.Cols, lost, numbersOf(s), ok, e, sources, want)
	}
}

func TestRecoversAndSources(t *testing.T) {
	everyLost(func(k generator, lost []int) {
		sources, ok := slowSources(k.g, lost)
		judged(t, k.name, k.g, lost, sources, ok)
	})
}

// Held against the words one by one: a row is a source if the rank of the left
// rows with lesser numbers is less without it.
func TestSourcesByRanks(t *testing.T) {
	for _, k := range small() {
		for _, lost := range lostOf(k.g) {
			left := others(k.g.Rows, lost)
			var sources []int
			for place, number := range left {
				if slowRank(picked(k.g, left[:place+1])) > slowRank(picked(k.g, left[:place])) {
					sources = append(sources, number)
				}
			}
			judged(t, k.name, k.g, lost, sources, slowRank(picked(k.g, left)) == k.g.Cols)
		}
	}
}

// Of these codes any blocks will do, as long as there are enough; the first
// ones that are left are the sources.
func TestRecoversOfCodesOfWhichAnyBlocksWillDo(t *testing.T) {
	for _, sides := range [][2]int{{1, 0}, {1, 5}, {3, 2}, {6, 6}, {40, 24}, {63, 1}, {64, 0}, {1, 63}} {
		k, m := sides[0], sides[1]
		for name, g := range map[string]api.Matrix{
			"reed":        must(build.Reed(k, m)),
			"cross":       must(build.Cross(k, m)),
			"vandermonde": must(build.Vandermonde(k+m, k)),
		} {
			for _, lost := range lostOf(g) {
				left := others(k+m, lost)
				if ok := len(left) >= k; ok {
					judged(t, name, g, lost, left[:k], ok)
				} else {
					judged(t, name, g, lost, nil, ok)
				}
			}
		}
	}
}

// With the identity on top and nothing of it lost the sources are its rows.
func TestSourcesOfDataThatAreThere(t *testing.T) {
	for _, k := range append(small(), great()...) {
		if !alike(picked(k.g, rising(0, k.g.Cols)), identity(k.g.Cols)) {
			continue
		}
		for _, lost := range [][]int{nil, rising(k.g.Cols, k.g.Rows), rising(min(k.g.Cols+1, k.g.Rows), k.g.Rows)} {
			judged(t, k.name, k.g, lost, rising(0, k.g.Cols), true)
		}
	}
}

// What stands in a lost row is of no moment, nor are rows of noughts or such as
// stand there already, behind the sources.
func TestLostRowsAreOfNoMoment(t *testing.T) {
	from := seeded(7)
	for _, k := range append(small(), great()...) {
		for place, lost := range lostOf(k.g) {
			if place%5 != 0 || len(lost) == 0 {
				continue
			}
			other := slow(k.g.Rows, k.g.Cols, func(i, j int) byte {
				if slices.Contains(lost, i) {
					return from.element()
				}
				return entry(k.g, i, j)
			})
			sources, ok := slowSources(k.g, lost)
			judged(t, k.name+", lost rows overwritten", other, lost, sources, ok)
			one, _, _ := verdict.Decode(k.g, set(lost...))
			if d, _, _ := verdict.Decode(other, set(lost...)); !alike(d, one) {
				t.Errorf("%s: Decode of %v hangs on the lost rows", k.name, lost)
			}
		}
	}
}

func TestRecoversAtTheEdges(t *testing.T) {
	cross := must(build.Cross(32, 32))
	for _, c := range []struct {
		name          string
		g             api.Matrix
		lost, sources []int
		ok            bool
	}{
		{"one row", of(1, 9), nil, []int{0}, true},
		{"one row", of(1, 9), []int{0}, nil, false},
		{"one nought", of(1, 0), nil, nil, false},
		{"one column", of(1, 0, 5, 7), nil, []int{1}, true},
		{"one column", of(1, 0, 5, 7), []int{1}, []int{2}, true},
		{"one column", of(1, 0, 5, 7), []int{0, 1}, []int{2}, true},
		{"one column, but noughts left", of(1, 0, 5, 7), []int{1, 2}, nil, false},
		{"as many rows as columns", identity(3), nil, []int{0, 1, 2}, true},
		{"as many rows as columns", identity(3), []int{2}, nil, false},
		{"as many left as columns", of(2, 1, 2, 0, 1, 2, 4), []int{1}, nil, false},
		{"as many left as columns", of(2, 1, 2, 0, 1, 2, 4), []int{0}, []int{1, 2}, true},
		{"too small a rank", of(2, 1, 2, 2, 4, 3, 6), nil, nil, false},
		{"noughts", noughts(64, 1), nil, nil, false},
		{"noughts", noughts(64, 64), nil, nil, false},
		{"MaxSide rows", cross, []int{63}, rising(0, 32), true},
		{"MaxSide rows", cross, append(rising(0, 31), 63), rising(31, 63), true},
		{"MaxSide rows", cross, rising(0, 32), rising(32, 64), true},
		{"MaxSide rows", cross, append(rising(0, 32), 63), nil, false},
		{"MaxSide rows", cross, rising(32, 64), rising(0, 32), true},
		{"MaxSide rows, all lost", cross, rising(0, 64), nil, false},
		{"the identity", identity(64), []int{63}, nil, false},
		{"the identity", identity(64), nil, rising(0, 64), true},
		{"one column", filled(64, 1, 2), rising(0, 63), []int{63}, true},
	} {
		judged(t, c.name, c.g, c.lost, c.sources, c.ok)
	}
}

func TestRecoversOfTheExamples(t *testing.T) {
	g := of(2, 1, 0, 0, 1, 1, 1)
	judged(t, "the example", g, nil, []int{0, 1}, true)
	judged(t, "the example", g, []int{0}, []int{1, 2}, true)
	judged(t, "the example", g, []int{0, 1}, nil, false)
	if ok, e := verdict.Recovers(g, set(3)); ok || e != api.ErrArg {
		t.Errorf("Recovers of 3 = %v, %v", ok, e)
	}
	if ok, e := verdict.Recovers(of(2, 1, 2), 0); ok || e != api.ErrShape {
		t.Errorf("Recovers of one row and two columns = %v, %v", ok, e)
	}
}
