package number_test

import (
	"testing"

	"recoup/api"
	"recoup/number"
)

// P12.1

func TestWorkOfExamples(t *testing.T) {
	workIs(t, api.EDiv, -7, 2, -3, api.OK)
	workIs(t, api.ERest, -7, 2, -1, api.OK)
	workIs(t, api.EDiv, 1, 0, 0, api.ErrZero)
	workIs(t, api.EAdd, 2147483647, 1, 0, api.ErrOver)
	workIs(t, api.ENegate, 5, 0, -5, api.OK)
	workIs(t, api.NoExpr, 1, 1, 0, api.ErrArg)
}

func TestWorkOfEachOperation(t *testing.T) {
	workIs(t, api.ENegate, -12, 0, 12, api.OK)
	workIs(t, api.ENegate, 0, 0, 0, api.OK)
	workIs(t, api.EAdd, 12, 30, 42, api.OK)
	workIs(t, api.EAdd, 12, -30, -18, api.OK)
	workIs(t, api.ESub, 12, 30, -18, api.OK)
	workIs(t, api.ESub, -12, -30, 18, api.OK)
	workIs(t, api.EMul, 12, 30, 360, api.OK)
	workIs(t, api.EMul, -12, 30, -360, api.OK)
	workIs(t, api.EMul, -12, -30, 360, api.OK)
	workIs(t, api.EDiv, 30, 12, 2, api.OK)
	workIs(t, api.EDiv, 12, 30, 0, api.OK)
	workIs(t, api.ERest, 30, 12, 6, api.OK)
	workIs(t, api.ERest, 12, 30, 12, api.OK)
}

// The quotient goes towards 0; the rest has the sign of what is divided.
func TestWorkOfEachPairOfSigns(t *testing.T) {
	for _, c := range []struct{ a, b, quotient, rest int }{
		{7, 2, 3, 1}, {7, -2, -3, 1}, {-7, 2, -3, -1}, {-7, -2, 3, -1},
		{8, 2, 4, 0}, {8, -2, -4, 0}, {-8, 2, -4, 0}, {-8, -2, 4, 0},
		{1, 3, 0, 1}, {1, -3, 0, 1}, {-1, 3, 0, -1}, {-1, -3, 0, -1},
		{0, 5, 0, 0}, {0, -5, 0, 0}, {0, most, 0, 0}, {0, -most, 0, 0},
		{most, most, 1, 0}, {most, -most, -1, 0}, {-most, most, -1, 0}, {-most, -most, 1, 0},
		{most, 1, most, 0}, {most, -1, -most, 0}, {-most, 1, -most, 0}, {-most, -1, most, 0},
		{most - 1, most, 0, most - 1}, {1 - most, most, 0, 1 - most}, {most, 1 - most, -1, 1}, {-most, most - 1, -1, -1},
		{most, 2, 1073741823, 1}, {-most, 2, -1073741823, -1},
	} {
		workIs(t, api.EDiv, c.a, c.b, c.quotient, api.OK)
		workIs(t, api.ERest, c.a, c.b, c.rest, api.OK)
	}
}

func TestNothingIsDividedByZero(t *testing.T) {
	for _, a := range []int{0, 1, -1, 7, most, -most} {
		workIs(t, api.EDiv, a, 0, 0, api.ErrZero)
		workIs(t, api.ERest, a, 0, 0, api.ErrZero)
		workIs(t, api.EMul, a, 0, 0, api.OK)
		workIs(t, api.EAdd, a, 0, a, api.OK)
		workIs(t, api.ESub, a, 0, a, api.OK)
	}
}

func TestWorkAtTheBound(t *testing.T) {
	workIs(t, api.ENegate, most, 0, -most, api.OK)
	workIs(t, api.ENegate, -most, 0, most, api.OK)
	workIs(t, api.EAdd, most, 0, most, api.OK)
	workIs(t, api.EAdd, most-1, 1, most, api.OK)
	workIs(t, api.EAdd, -most, -1, 0, api.ErrOver)
	workIs(t, api.EAdd, 1-most, -1, -most, api.OK)
	workIs(t, api.EAdd, most, -most, 0, api.OK)
	workIs(t, api.EAdd, most, most, 0, api.ErrOver)
	workIs(t, api.EAdd, -most, -most, 0, api.ErrOver)
	workIs(t, api.ESub, most, -1, 0, api.ErrOver)
	workIs(t, api.ESub, most-1, -1, most, api.OK)
	workIs(t, api.ESub, -most, 1, 0, api.ErrOver)
	workIs(t, api.ESub, -most, -1, 1-most, api.OK)
	workIs(t, api.ESub, 0, -most, most, api.OK)
	workIs(t, api.ESub, -1, most, 0, api.ErrOver)
	workIs(t, api.ESub, 1, -most, 0, api.ErrOver)
	workIs(t, api.EMul, most, -1, -most, api.OK)
	workIs(t, api.EMul, 1<<30, 2, 0, api.ErrOver)
	workIs(t, api.EMul, 1<<30-1, 2, most-1, api.OK)
	workIs(t, api.EMul, -1<<30, 2, 0, api.ErrOver)
	workIs(t, api.EMul, 1-1<<30, 2, 1-most, api.OK)
	workIs(t, api.EMul, 46341, 46341, 0, api.ErrOver)
	workIs(t, api.EMul, 46340, 46341, 2147441940, api.OK)
	workIs(t, api.EMul, most, most, 0, api.ErrOver)
	workIs(t, api.EMul, most, -most, 0, api.ErrOver)
	workIs(t, api.EMul, -most, -most, 0, api.ErrOver)
	workIs(t, api.EMul, most, 0, 0, api.OK)
	// In 32 bits these would be 0 and 1.
	workIs(t, api.EMul, 1<<16, 1<<16, 0, api.ErrOver)
	workIs(t, api.EMul, 641, 6700417, 0, api.ErrOver)
}

// Of a negation b counts for nothing, but for being a number.
func TestNegationAsksOnlyWhetherBIsANumber(t *testing.T) {
	for _, b := range []int{0, 1, -1, 7, most, -most} {
		workIs(t, api.ENegate, 5, b, -5, api.OK)
		workIs(t, api.ENegate, most, b, -most, api.OK)
		workIs(t, api.ENegate, -most, b, most, api.OK)
	}
	for _, b := range beyond() {
		workIs(t, api.ENegate, 5, b, 0, api.ErrArg)
	}
}

func TestWorkOfKindsThatAreNoOperation(t *testing.T) {
	for kind := range 256 {
		op := api.ExprKind(kind)
		if op >= api.ENegate && op <= api.ERest {
			continue
		}
		workIs(t, op, 1, 1, 0, api.ErrArg)
		workIs(t, op, 0, 0, 0, api.ErrArg)
		workIs(t, op, most, most, 0, api.ErrArg)
		workIs(t, op, most+1, 0, 0, api.ErrArg)
	}
}

// An argument that is no number is told ahead of a division by 0 and of what
// would be no number.
func TestWorkOfNumbersBeyondTheirBound(t *testing.T) {
	for _, op := range operations {
		for _, n := range beyond() {
			for _, m := range []int{0, 1, -1, 2, most, -most, n, -n} {
				workIs(t, op, n, m, 0, api.ErrArg)
				workIs(t, op, m, n, 0, api.ErrArg)
			}
		}
	}
}

func TestWorkOfAnyNumbers(t *testing.T) {
	near := []int{0, 1, 2, 3, 7, 10, 46339, 46340, 46341, 65535, 65536, 65537, 1<<30 - 1, 1 << 30, most - 2, most - 1, most}
	for _, n := range near {
		near = append(near, -n)
	}
	for seed := range 20000 {
		s := seeded(seed)
		near = append(near[:34], s.number(), s.number())
		a, b := near[34], one(s, near)
		for _, op := range operations {
			want, e := slowWork(op, a, b)
			workIs(t, op, a, b, want, e)
			want, e = slowWork(op, b, a)
			workIs(t, op, b, a, want, e)
		}
	}
	for _, a := range near {
		for _, b := range near {
			for _, op := range operations {
				want, e := slowWork(op, a, b)
				workIs(t, op, a, b, want, e)
			}
		}
	}
}

// What is divided is the quotient times what divides, and the rest.
func TestQuotientAndRestBelongTogether(t *testing.T) {
	for seed := range 20000 {
		s := seeded(seed)
		a, b := s.number(), s.number()
		if b == 0 {
			continue
		}
		quotient, e := number.Work(api.EDiv, a, b)
		rest, e2 := number.Work(api.ERest, a, b)
		small := rest < b && rest > -b || rest < -b && rest > b
		if e != api.OK || e2 != api.OK || quotient*b+rest != a || !small || rest*a < 0 {
			t.Errorf("%d by %d: %d, %d", a, b, quotient, rest)
		}
	}
}
