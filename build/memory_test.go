package build_test

import (
	"fmt"
	"testing"

	"recoup/api"
	"recoup/build"
)

// answer is what a call answered, its list to be spoilt, and all as a text.
type answer struct {
	list []byte
	text func() string
}

func ofMatrix(m api.Matrix, e api.Errno) answer {
	return answer{m.Data, func() string { return fmt.Sprint(m.Rows, m.Cols, m.Data, e) }}
}

// calls are those over a matrix.
func calls() map[string]func(m api.Matrix) answer {
	return map[string]func(m api.Matrix) answer{
		"Systematic": func(m api.Matrix) answer { return ofMatrix(build.Systematic(m)) },
		"Check":      func(m api.Matrix) answer { return ofMatrix(build.Check(m)) },
		"MDS": func(m api.Matrix) answer {
			ok, e := build.MDS(m)
			return answer{text: func() string { return fmt.Sprint(ok, e) }}
		},
	}
}

// handed are matrices of all kinds: systematic ones, such with one row or one
// column, none, some that calls refuse.
func handed() []api.Matrix {
	return []api.Matrix{
		identity(1),
		identity(3),
		identity(64),
		invertible(3, 1),
		singular(3, 1),
		singular(64, 1),
		systematic(5, 3, 1),
		systematic(64, 62, 1),
		systematic(40, 20, 1),
		filled(5, 3, 1),
		filled(64, 2, 1),
		filled(3, 5, 1),
		slowVandermonde(5, 3),
		slowVandermonde(5, 2),
		stacked(singular(3, 1), identity(3)),
		noughts(4, 4),
		noughts(4, 1),
		noughts(4, 0),
		noughts(0, 4),
		noughts(0, 0),
		{Rows: 2, Cols: 2, Data: list(3, 1)},
		{Rows: 2, Cols: 2, Data: list(5, 1)},
		{Rows: 65, Cols: 65, Data: list(65*65, 1)},
	}
}

// Rule 5: what is handed in stays as it is, also where a call fails.
func TestWhatIsHandedInStays(t *testing.T) {
	for name, call := range calls() {
		for i, m := range handed() {
			before := hold(m.Data)
			call(m)
			if !before.same() {
				t.Errorf("%s of matrix %d changed what it was handed", name, i)
			}
		}
	}
}

// Rule 5: what is answered is new memory, with its room behind the end.
func TestAnswersAreNewMemory(t *testing.T) {
	for name, call := range calls() {
		for i, m := range handed() {
			before := hold(m.Data)
			spoilt, another := call(m), call(m)
			want := another.text()
			spoil(spoilt.list)
			if !before.same() {
				t.Errorf("%s of matrix %d shares memory with what it was handed", name, i)
			}
			if got := another.text(); got != want {
				t.Errorf("%s of matrix %d: two answers share memory", name, i)
			}
			if got := call(m).text(); got != want {
				t.Errorf("%s of matrix %d hangs on what becomes of its answers: %s, want %s", name, i, got, want)
			}
			spoil(m.Data)
			if got := another.text(); got != want {
				t.Errorf("%s of matrix %d hangs on what becomes of it", name, i)
			}
		}
	}
}

// Rule 5, LANGUAGE 5: what is answered does not hang on the room behind.
func TestRoomBehindIsOfNoMoment(t *testing.T) {
	for name, call := range calls() {
		for i, m := range handed() {
			with := call(m).text()
			m.Data = m.Data[:len(m.Data):len(m.Data)]
			if without := call(m).text(); with != without {
				t.Errorf("%s of matrix %d = %s, without room behind %s", name, i, with, without)
			}
		}
	}
}

// The two lists may be pieces of one, or the same.
func TestCauchyAndItsLists(t *testing.T) {
	all := roomy(shuffled(1)[:128])
	for _, lists := range [][2][]byte{
		{all[:64], all[64:]},
		{all[:3], all[3:6]},
		{all[3:6], all[:3]},
		{all[:1], all[1:1]},
		{all[:0], all[:64]},
		{all[:3], all[:3]},
		{all[:3], all[2:4]},
		{all[:65], all[65:]},
	} {
		xs, ys := lists[0], lists[1]
		before := hold(all)
		apart := ofMatrix(build.Cauchy(roomy(xs), roomy(ys))).text()
		spoilt, another := ofMatrix(build.Cauchy(xs, ys)), ofMatrix(build.Cauchy(xs, ys))
		spoil(spoilt.list)
		if !before.same() {
			t.Errorf("Cauchy of %d and %d changed what it was handed", xs, ys)
		}
		if got := another.text(); got != apart {
			t.Errorf("Cauchy of pieces %d and %d = %s, want %s", xs, ys, got, apart)
		}
	}
}

// Two answers of calls over numbers share no memory.
func TestMadeOfNumbersIsNewMemory(t *testing.T) {
	for name, call := range map[string]func(a, b int) (api.Matrix, api.Errno){
		"Vandermonde": build.Vandermonde,
		"Reed":        build.Reed,
		"Cross":       build.Cross,
	} {
		for _, n := range [][2]int{{1, 0}, {1, 1}, {3, 2}, {60, 4}} {
			spoilt, another := ofMatrix(call(n[0], n[1])), ofMatrix(call(n[0], n[1]))
			want := another.text()
			spoil(spoilt.list)
			if got := another.text(); got != want {
				t.Errorf("two answers of %s(%d, %d) share memory", name, n[0], n[1])
			}
			if got := ofMatrix(call(n[0], n[1])).text(); got != want {
				t.Errorf("%s(%d, %d) hangs on what becomes of its answers", name, n[0], n[1])
			}
		}
	}
}
