package verdict_test

import (
	"bytes"
	"fmt"
	"math"
	"testing"

	"recoup/api"
	"recoup/verdict"
)

// behind fills the room behind the end of a list that is handed in.
const behind = 0xa5

// roomy is a matrix with room behind the end of its list.
func roomy(g api.Matrix) api.Matrix {
	room := bytes.Repeat([]byte{behind}, len(g.Data)+70)
	copy(room, g.Data)
	g.Data = room[:len(g.Data)]
	return g
}

// shown is what all calls answer of a matrix and a set, as a text.
func shown(g api.Matrix, lost api.Set) string {
	recovers, e := verdict.Recovers(g, lost)
	s, ok, e1 := verdict.Sources(g, lost)
	d, ok2, e2 := verdict.Decode(g, lost)
	m, ok3, e3 := verdict.Rebuild(g, lost)
	return fmt.Sprintln(recovers, e, s, ok, e1, d, ok2, e2, m, ok3, e3)
}

// handed are matrices of all kinds, such that calls refuse among them.
func handed() []api.Matrix {
	var made []api.Matrix
	for _, k := range append(small(), great()...) {
		made = append(made, k.g)
	}
	return append(append(made, noGenerators()...), notRight()...)
}

// Rule 5: what is handed in stays as it is, the room behind its end too, also
// where a call fails; that room is of no moment, and nothing is kept.
func TestWhatIsHandedInStays(t *testing.T) {
	for i, g := range handed() {
		room := roomy(g)
		for _, lost := range []api.Set{0, 1, 5, 6, 14, 1 << 63, 1<<63 - 1, math.MaxUint64} {
			before := bytes.Clone(room.Data[:cap(room.Data)])
			told := shown(room, lost)
			if !bytes.Equal(room.Data[:cap(room.Data)], before) {
				t.Fatalf("matrix %d is changed by the calls with %#x", i, lost)
			}
			if other := shown(g, lost); other != told {
				t.Errorf("matrix %d, %#x: %s, without room behind %s", i, lost, told, other)
			}
		}
	}
}

// spoil writes over a list, the room behind its end too.
func spoil(list []byte) {
	list = list[:cap(list)]
	for i := range list {
		list[i] ^= 0xff
	}
}

// What is done to one answer changes neither another one nor what was handed
// in, and what is done to that changes no answer.
func TestAnswersAreNewMemory(t *testing.T) {
	for name, call := range makers() {
		for _, k := range append(small(), great()...) {
			g := roomy(k.g)
			for place, lost := range lostOf(g) {
				// Not all of the many.
				if place%7 > 0 {
					continue
				}
				first, ok, _ := call(g, set(lost...))
				second, _, _ := call(g, set(lost...))
				decoder, _, _ := verdict.Decode(g, set(lost...))
				if !ok {
					continue
				}
				want, held, other := bytes.Clone(first.Data), bytes.Clone(g.Data[:cap(g.Data)]), bytes.Clone(decoder.Data)
				spoil(first.Data)
				if !bytes.Equal(second.Data, want) || !bytes.Equal(decoder.Data, other) {
					t.Errorf("%s of %s: what is done to an answer changes another", name, k.name)
				}
				if !bytes.Equal(g.Data[:cap(g.Data)], held) {
					t.Errorf("%s of %s: what is done to an answer changes what was handed in", name, k.name)
				}
				if third, _, _ := call(g, set(lost...)); !bytes.Equal(third.Data, want) {
					t.Errorf("%s of %s: what is done to an answer changes one to come", name, k.name)
				}
				spoil(g.Data)
				if !bytes.Equal(second.Data, want) {
					t.Errorf("%s of %s: what is done to what was handed in changes an answer", name, k.name)
				}
				spoil(g.Data)
			}
		}
	}
}

// Rule 4: nil and a list without elements are the same.
func TestNilIsAListWithoutElements(t *testing.T) {
	for _, sides := range [][2]int{{0, 0}, {0, 64}, {64, 0}, {3, 0}, {2, 2}, {0, 1}} {
		for _, lost := range []api.Set{0, 1, math.MaxUint64} {
			one := shown(api.Matrix{Rows: sides[0], Cols: sides[1]}, lost)
			other := shown(api.Matrix{Rows: sides[0], Cols: sides[1], Data: []byte{}}, lost)
			if one != other {
				t.Errorf("%d, %#x: of nil %s, of no elements %s", sides, lost, one, other)
			}
		}
	}
}

// Rule 3: errors, and what is not recovered, leave no trace in what comes
// behind them.
func TestErrorsChangeNothing(t *testing.T) {
	g := of(2, 1, 0, 0, 1, 1, 1)
	want := shown(g, set(0))
	for range 3 {
		fails(t, api.Matrix{}, 0, api.ErrShape)
		fails(t, of(2, 1, 2), set(5), api.ErrShape)
		fails(t, g, set(3), api.ErrArg)
		fails(t, g, set(0, 1), api.OK)
		if got := shown(g, set(0)); got != want {
			t.Errorf("behind errors %s, ahead of them %s", got, want)
		}
	}
}
