package shape_test

import (
	"testing"

	"recoup/api"
	"recoup/shape"
)

// P16.1

func may(t *testing.T, c api.Code, want bool) {
	t.Helper()
	if got := shape.May(c); got != want {
		t.Errorf("May(%v) = %v", c, got)
	}
}

func TestMayOfEachGroup(t *testing.T) {
	told := map[bool]int{}
	for _, g := range someMatrices() {
		may(t, code(g), true)
		for s := range api.Set(1) << g.Rows {
			want := slowHangs(g, numbersOf(s))
			told[want]++
			may(t, code(g, s), want)
		}
	}
	if told[true] < 100 || told[false] < 100 {
		t.Errorf("nearly all alike: %v", told)
	}
}

func TestMayOfSomeGroups(t *testing.T) {
	for _, c := range someCodes() {
		may(t, c, true)
	}
	for _, c := range badCodes() {
		may(t, c, false)
	}
}

// One group that may not be is enough, wherever it stands.
func TestMayAsksEachGroup(t *testing.T) {
	good := set(0, 1, 4)
	for _, count := range []int{1, 2, 3, 10, 100} {
		for at := range count {
			groups := make([]api.Set, count)
			for i := range groups {
				groups[i] = good * api.Set(i%2)
			}
			g := stacked(identity(4), of(4, 1, 1, 0, 0, 0, 0, 1, 1))
			may(t, code(g, groups...), true)
			for _, bad := range []api.Set{set(0), set(5), set(0, 1), set(0, 1, 2, 4), set(0, 1, 4, 6), set(63), ^api.Set(0)} {
				groups[at] = bad
				may(t, code(g, groups...), false)
			}
			groups[at] = set(0, 1, 2, 3, 4, 5)
			may(t, code(g, groups...), true)
		}
	}
}

// A group of one block.
func TestMayOfOneBlock(t *testing.T) {
	for rows := 1; rows <= 64; rows++ {
		for _, zero := range []int{0, rows / 2, rows - 1} {
			g := filled(rows, 1, rows)
			for i := range rows {
				g.Data[i] |= 1
			}
			g.Data[zero] = 0
			for i := range 64 {
				may(t, code(g, set(i)), i == zero)
			}
		}
	}
}

// An empty group always, one with a number that is no row never.
func TestMayOfNumbersThatAreNoRows(t *testing.T) {
	for rows := 1; rows <= 64; rows++ {
		g := noughts(rows, 1)
		may(t, code(g, 0), true)
		may(t, code(g, 0, 0, 0), true)
		may(t, code(g, set(rising(0, rows)...)), true)
		for i := range 64 {
			may(t, code(g, set(i)), i < rows)
			if i > 0 {
				may(t, code(g, set(0, i)), i < rows)
			}
		}
	}
}

func TestMayOfManyRows(t *testing.T) {
	all := rising(0, 64)
	sum := slow(1, 63, func(_, _ int) byte { return 1 })
	may(t, code(stacked(identity(63), sum), set(all...)), true)
	may(t, code(identity(64)), true)
	may(t, code(identity(64), set(all...)), false)
	may(t, code(stacked(identity(32), identity(32)), set(all...)), true)
	for i := range 63 {
		may(t, code(stacked(identity(63), sum), set(without(all, i)...)), false)
		// Only those are in it that the last row asks for.
		g := stacked(identity(63), sum)
		g.Data[63*63+i] = 0
		may(t, code(g, set(all...)), false)
		may(t, code(g, set(without(all, i)...)), true)
		may(t, code(g, set(i)), false)
	}
	for _, k := range []int{1, 2, 31, 62, 63} {
		for _, size := range []int{k - 1, k, k + 1, 64} {
			may(t, code(slowCross(k, 64-k), set(all[64-size:]...)), size > k || size == 0)
			may(t, code(slowReed(k, 64-k), set(all[:size]...)), size > k || size == 0)
		}
	}
}

func TestMayOfTheMatrixAlone(t *testing.T) {
	for _, rows := range []int{0, 1, 2, 3, 32, 63, 64} {
		for _, cols := range []int{0, 1, 2, 3, 32, 63, 64} {
			want := cols >= 1 && rows >= cols
			may(t, code(filled(rows, cols, 1)), want)
			may(t, code(noughts(rows, cols)), want)
			may(t, code(noughts(rows, cols), 0), want)
		}
	}
	for _, g := range wrong() {
		may(t, api.Code{G: g}, false)
		may(t, api.Code{G: g, Groups: []api.Set{0}}, false)
		may(t, api.Code{G: g, Groups: []api.Set{1}}, false)
	}
}

// There is no limit to the groups of a code that is handed in.
func TestMayOfManyGroups(t *testing.T) {
	for _, count := range []int{api.MaxPatterns, api.MaxPatterns + 1, 100000} {
		groups := make([]api.Set, count)
		for i := range groups {
			groups[i] = []api.Set{set(0, 1), 0, set(0, 2), set(1, 2), set(0, 1, 2)}[i%5]
		}
		may(t, code(of(1, 1, 1, 1), groups...), true)
		groups[count-1] = set(1)
		may(t, code(of(1, 1, 1, 1), groups...), false)
	}
}

// Each of many groups is another one.
func TestMayOfManyGroupsThatDiffer(t *testing.T) {
	var groups []api.Set
	for s := range api.Set(1) << 14 {
		if len(numbersOf(s)) > 1 {
			groups = append(groups, s)
		}
	}
	g := slow(14, 1, func(i, _ int) byte { return byte(i + 1) })
	may(t, code(g, groups...), true)
	may(t, code(g, append(groups, set(13))...), false)
	may(t, code(g, append([]api.Set{set(14)}, groups...)...), false)
}
