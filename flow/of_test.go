package flow_test

import (
	"math"
	"testing"

	"recoup/api"
	"recoup/flow"
)

// P21.2

// ofIs tells where Of answers another flow.
func ofIs(t *testing.T, m api.Matrix, want string) {
	t.Helper()
	if f, e := flow.Of(m); e != api.OK || written(f) != want {
		t.Errorf("Of(%v) = %s, %v, want %s", m, written(f), e, want)
	}
}

func TestOf(t *testing.T) {
	for _, m := range matrices() {
		ofIs(t, m, written(slowOf(m)))
	}
}

func TestOfAtTheEdges(t *testing.T) {
	for _, c := range []struct {
		m    api.Matrix
		told string
	}{
		{of(3, 1, 0, 2, 0, 0, 0), "0 2; (0 by 1, 1 by 2), (); 2 3"},
		{api.Matrix{}, "; ; "},
		{api.Matrix{Cols: 64}, "; ; "},
		{api.Matrix{Rows: 3}, "; (), (), (); 0 1 2"},
		{noughts(2, 2), "; (), (); 0 1"},
		{of(1, 0, 0, 255), "0; (), (), (0 by 255); 1 2 3"},
		{of(3, 0, 0, 7), "2; (0 by 7); 1"},
		{of(2, 0, 1, 1, 0), "0 1; (1 by 1), (0 by 1); 2 3"},
		{of(4, 0, 0, 0, 2, 0, 3, 0, 0), "1 3; (1 by 2), (0 by 3); 2 3"},
	} {
		ofIs(t, c.m, c.told)
	}
	f, e := flow.Of(identity(64))
	if e != api.OK || len(f.Inputs) != 64 || len(f.Nodes) != 64 || f.Outs[63] != 127 {
		t.Errorf("Of the identity = %s, %v", written(f), e)
	}
}

// notRight are matrices that are not right: by a side, by both, by Data.
func notRight() []api.Matrix {
	made := []api.Matrix{
		{Rows: -2, Cols: -2, Data: []byte{1, 0, 0, 1}},
		{Rows: 65, Cols: 65, Data: make([]byte, 65*65)},
		{Rows: 65},
		{Cols: 65},
		{Rows: 65, Cols: 1, Data: make([]byte, 65)},
		{Rows: 1, Cols: 65, Data: make([]byte, 65)},
		// Sides whose product comes round to 0, or to 1.
		{Rows: math.MinInt, Cols: 2},
		{Rows: 2, Cols: math.MinInt},
		{Rows: 1 << 32, Cols: 1 << 32},
		{Rows: math.MaxInt, Cols: math.MaxInt, Data: []byte{1}},
	}
	for _, n := range edges() {
		made = append(made, api.Matrix{Rows: n}, api.Matrix{Cols: n}, api.Matrix{Rows: n, Cols: n},
			api.Matrix{Rows: n, Cols: 1, Data: []byte{1}}, api.Matrix{Rows: 1, Cols: n, Data: []byte{1}})
	}
	for _, side := range []int{1, 2, 3, 8, 63, 64} {
		full := identity(side).Data
		made = append(made,
			api.Matrix{Rows: side, Cols: side, Data: append(full, 1)},
			api.Matrix{Rows: side, Cols: side, Data: full[:len(full)-1]},
			api.Matrix{Rows: side, Cols: side},
			api.Matrix{Cols: side, Data: []byte{1}})
	}
	return made
}

func TestOfWhatIsNotRight(t *testing.T) {
	for _, m := range notRight() {
		if f, e := flow.Of(m); e != api.ErrShape || written(f) != written(api.Flow{}) {
			t.Errorf("Of(%d x %d) = %s, %v", m.Rows, m.Cols, written(f), e)
		}
	}
}
