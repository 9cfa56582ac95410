package gauss_test

import (
	"fmt"
	"testing"

	"recoup/api"
	"recoup/gauss"
)

// answer is what a call answered: its lists, to be spoilt, and all as a text.
type answer struct {
	bytes  []byte
	places []int
	text   func() string
}

func (a answer) spoil() {
	spoil(a.bytes)
	room := a.places[:cap(a.places)]
	for i := range room {
		room[i] = -1 - room[i]
	}
}

// calls are all of the package, each over a matrix and a list.
func calls() map[string]func(m api.Matrix, x []byte) answer {
	ofMatrix := func(m api.Matrix, places []int, e api.Errno) answer {
		return answer{m.Data, places, func() string { return fmt.Sprint(m.Rows, m.Cols, m.Data, places, e) }}
	}
	ofList := func(list []byte, ok bool, e api.Errno) answer {
		return answer{list, nil, func() string { return fmt.Sprint(list, ok, e) }}
	}
	return map[string]func(m api.Matrix, x []byte) answer{
		"Reduce": func(m api.Matrix, _ []byte) answer { return ofMatrix(gauss.Reduce(m)) },
		"Rank": func(m api.Matrix, _ []byte) answer {
			rank, e := gauss.Rank(m)
			return answer{text: func() string { return fmt.Sprint(rank, e) }}
		},
		"Inverse": func(m api.Matrix, _ []byte) answer {
			inverse, e := gauss.Inverse(m)
			return ofMatrix(inverse, nil, e)
		},
		"First": func(m api.Matrix, _ []byte) answer {
			first, e := gauss.First(m)
			return ofMatrix(api.Matrix{}, first, e)
		},
		"Combine": func(m api.Matrix, x []byte) answer { return ofList(gauss.Combine(m, x)) },
		"Solve":   func(m api.Matrix, x []byte) answer { return ofList(gauss.Solve(m, x)) },
		"Kernel": func(m api.Matrix, _ []byte) answer {
			kernel, e := gauss.Kernel(m)
			return ofMatrix(kernel, nil, e)
		},
	}
}

// arguments is a matrix and a list that are handed in together.
type arguments struct {
	m api.Matrix
	x []byte
}

// handed are arguments of all kinds: reduced ones, such with one row or one
// column, none, some that calls refuse or find nothing for.
func handed() []arguments {
	return []arguments{
		{invertible(3, 1), list(3, 1)},
		{invertible(64, 1), list(64, 1)},
		{identity(3), list(3, 2)},
		{identity(64), list(64, 2)},
		{identity(1), list(1, 2)},
		{roomyOf(1, 7), list(1, 3)},
		{roomyOf(3, 1, 2, 3), list(3, 4)},
		{roomyOf(3, 1, 2, 3), list(1, 4)},
		{roomyOf(3, 0, 0, 2), roomy([]byte{0, 0, 9})},
		{roomyOf(1, 1, 2, 3), list(3, 5)},
		{roomyOf(1, 1, 2, 3), roomy([]byte{2, 4, 6})},
		{roomyOf(1, 1, 2, 3), list(1, 5)},
		{roomyOf(2, 2, 4, 1, 2), roomy([]byte{2, 1})},
		{roomyOf(2, 2, 4, 1, 2), roomy([]byte{2, 4})},
		{knownOf(5, 8, 3, 1).m, make([]byte, 5, 9)},
		{knownOf(5, 8, 3, 1).m, make([]byte, 8, 9)},
		{knownOf(64, 63, 40, 1).m, list(64, 6)},
		{noughts(4, 4), make([]byte, 4, 9)},
		{noughts(4, 0), make([]byte, 4, 9)},
		{noughts(0, 4), list(4, 7)},
		{noughts(0, 0), roomy(nil)},
		{api.Matrix{Rows: 2, Cols: 2, Data: list(3, 1)}, list(2, 8)},
		{api.Matrix{Rows: 2, Cols: 2, Data: list(5, 1)}, list(2, 8)},
		{api.Matrix{Rows: 65, Cols: 65, Data: list(65*65, 1)}, list(65, 8)},
	}
}

// roomyOf is a matrix by its entries, with room behind their end.
func roomyOf(cols int, entries ...byte) api.Matrix {
	return copied(of(cols, entries...))
}

// Rule 5: what is handed in stays as it is, also where a call fails.
func TestWhatIsHandedInStays(t *testing.T) {
	for name, call := range calls() {
		for i, a := range handed() {
			first, second := hold(a.m.Data), hold(a.x)
			call(a.m, a.x)
			if !first.same() || !second.same() {
				t.Errorf("%s of arguments %d changed what it was handed", name, i)
			}
		}
	}
}

// Rule 5: a list that is handed in may be a piece of the matrix.
func TestAListThatIsAPieceOfTheMatrix(t *testing.T) {
	for name, call := range calls() {
		for i, a := range handed() {
			for _, length := range []int{a.m.Rows, a.m.Cols} {
				if length > len(a.m.Data) {
					continue
				}
				piece := a.m.Data[:length]
				before := hold(a.m.Data)
				got, want := call(a.m, piece).text(), call(a.m, roomy(piece)).text()
				if !before.same() || got != want {
					t.Errorf("%s of matrix %d and %d of its own = %s, want %s", name, i, length, got, want)
				}
			}
		}
	}
}

// Rule 5: what is answered is new memory, with its room behind the end.
func TestAnswersAreNewMemory(t *testing.T) {
	for name, call := range calls() {
		for i, a := range handed() {
			first, second := hold(a.m.Data), hold(a.x)
			spoilt, another := call(a.m, a.x), call(a.m, a.x)
			want := another.text()
			spoilt.spoil()
			if !first.same() || !second.same() {
				t.Errorf("%s of arguments %d shares memory with what it was handed", name, i)
			}
			if got := another.text(); got != want {
				t.Errorf("%s of arguments %d: two answers share memory", name, i)
			}
			if got := call(a.m, a.x).text(); got != want {
				t.Errorf("%s of arguments %d hangs on what becomes of its answers: %s, want %s", name, i, got, want)
			}
			spoil(a.m.Data)
			spoil(a.x)
			if got := another.text(); got != want {
				t.Errorf("%s of arguments %d hangs on what becomes of its arguments", name, i)
			}
		}
	}
}

// Rule 5, LANGUAGE 5: what is answered does not hang on the room behind.
func TestRoomBehindIsOfNoMoment(t *testing.T) {
	for name, call := range calls() {
		for i, a := range handed() {
			with := call(a.m, a.x).text()
			m := api.Matrix{Rows: a.m.Rows, Cols: a.m.Cols, Data: a.m.Data[:len(a.m.Data):len(a.m.Data)]}
			if without := call(m, a.x[:len(a.x):len(a.x)]).text(); with != without {
				t.Errorf("%s of arguments %d = %s, without room behind %s", name, i, with, without)
			}
		}
	}
}
