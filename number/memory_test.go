package number_test

import (
	"reflect"
	"slices"
	"testing"

	"recoup/api"
	"recoup/number"
)

// Rule 5: what is answered is new memory, what is handed in stays. Rule 3: an
// error changes nothing.

// piece is where a list lies in memory, the room behind its end too.
type piece struct {
	from, to uintptr
}

func pieces(x api.Expr) []piece {
	var made []piece
	if room := cap(x.L); room > 0 {
		from := reflect.ValueOf(x.L).Pointer()
		made = append(made, piece{from, from + uintptr(room)*reflect.TypeOf(x).Size()})
	}
	for _, part := range x.L {
		made = append(made, pieces(part)...)
	}
	return made
}

// apart tells whether no two lists of all these expressions share memory.
func apart(l ...api.Expr) bool {
	var all []piece
	for _, x := range l {
		all = append(all, pieces(x)...)
	}
	slices.SortFunc(all, func(a, b piece) int { return int(a.from) - int(b.from) })
	for i := range len(all) - 1 {
		if all[i].to > all[i+1].from {
			return false
		}
	}
	return true
}

// lies tells whether a list of the one expression shares memory with one of
// the other; each may have a list in several places.
func lies(x, y api.Expr) bool {
	for _, p := range pieces(x) {
		for _, q := range pieces(y) {
			if p.from < q.to && q.from < p.to {
				return true
			}
		}
	}
	return false
}

// spoil writes over all that can be got at, the room behind the ends too.
func spoil(l []api.Expr) {
	l = l[:cap(l)]
	for i := range l {
		inner := l[i].L
		l[i] = api.Expr{Kind: 77, N: -77, Name: "spoilt", Line: -7, Col: -7}
		spoil(inner)
	}
}

// roomy is a copy of x each of whose lists, the empty ones too, has something
// behind its end.
func roomy(x api.Expr) api.Expr {
	made := x
	made.L = nil
	for _, part := range x.L {
		made.L = append(made.L, roomy(part))
	}
	count := len(made.L)
	made.L = append(made.L, name("behind"), api.Expr{}, num(9))[:count]
	return made
}

// behind are the parts of all lists, and what stands behind their ends.
func behind(x api.Expr) []flat {
	made := []flat{{x.Kind, x.N, x.Name, len(x.L), x.Line, x.Col}}
	for _, part := range x.L[:cap(x.L)] {
		made = append(made, behind(part)...)
	}
	return made
}

// shared is an expression in which one list stands in many places.
func shared() api.Expr {
	l := []api.Expr{name("a"), neg(name("b")), num(3)}
	x := api.Expr{Kind: api.EAdd, L: l[:2]}
	x = api.Expr{Kind: api.EMul, L: []api.Expr{x, x}}
	return two(api.ESub, x, api.Expr{Kind: api.ENegate, L: []api.Expr{x}})
}

func someExprs() []api.Expr {
	made := []api.Expr{num(1), name("a"), neg(name("a")), two(api.EAdd, name("a"), name("a")), shared(), roomy(shared()), roomy(num(1)), roomy(name("a")), nested(8, name("a")), full(6, name("a"), num(1))}
	for seed := range 40 {
		made = append(made, placed(seeded(seed).expr(6), seed), roomy(seeded(-seed).expr(5)))
	}
	return made
}

func TestPutIsNewMemory(t *testing.T) {
	for _, x := range someExprs() {
		for _, y := range someExprs() {
			want, _ := slowPut(x, "a", y)
			first, e := number.Put(x, "a", y)
			second, _ := number.Put(x, "a", y)
			if e != api.OK {
				t.Fatalf("Put(%s, a, %s): %v", short(x), short(y), e)
			}
			if !apart(first, second) || lies(first, x) || lies(first, y) {
				t.Errorf("Put(%s, a, %s) has lists that share memory", short(x), short(y))
			}
			spoil(first.L)
			if third, _ := number.Put(x, "a", y); !slices.Equal(row(second), want) || !slices.Equal(row(third), want) {
				t.Errorf("what is done to an answer changes another, or what was handed in: %s", short(third))
			}
		}
	}
}

// An expression that is put into itself.
func TestPutOfOneTwice(t *testing.T) {
	for _, x := range someExprs() {
		want, _ := slowPut(x, "a", x)
		got, e := number.Put(x, "a", x)
		if !slices.Equal(row(got), want) || e != api.OK || !apart(got) || lies(got, x) {
			t.Errorf("Put(%s, a, it) = %s, %v", short(x), short(got), e)
		}
	}
}

// The most that Put may answer.
func TestPutOfMuchIsNewMemory(t *testing.T) {
	got, e := number.Put(full(7, name("a")), "a", full(7, num(1)))
	if e != api.OK || !apart(got) || len(row(got)) != 8191 {
		t.Errorf("Put has %d parts, %v", len(row(got)), e)
	}
}

// What was handed in may be changed behind the call.
func TestPutKeepsNothing(t *testing.T) {
	for _, x := range someExprs() {
		for _, y := range []api.Expr{num(1), name("b"), shared(), roomy(shared())} {
			x, y := roomy(x), roomy(y)
			want, _ := slowPut(x, "a", y)
			got, _ := number.Put(x, "a", y)
			spoil(x.L)
			spoil(y.L)
			if !slices.Equal(row(got), want) {
				t.Errorf("what is done to what was handed in changes an answer: %s", short(got))
			}
		}
	}
}

// Neither is what is handed in changed, nor what lies behind its end.
func TestWhatIsHandedInStays(t *testing.T) {
	all := append(someExprs(), two(api.EDiv, num(1), num(0)), two(api.EAdd, num(most), num(1)), two(api.EAdd, num(1), api.Expr{}), nested(16, name("a")), nested(17, name("a")))
	for seed, x := range all {
		x, y := roomy(x), roomy(shared())
		room := append(seeded(seed).env(), constants("behind", 1, "behind", 1, "use", most+1)...)
		env := room[:len(room)-3]
		heldX, heldY, heldRoom := behind(x), behind(y), slices.Clone(room)
		number.Eval(x, env...)
		number.Eval(x, room...)
		number.Names(x)
		number.Put(x, "a", y)
		number.Put(y, "b", x)
		number.Put(x, "use", y)
		if !slices.Equal(behind(x), heldX) || !slices.Equal(behind(y), heldY) || !slices.Equal(room, heldRoom) {
			t.Errorf("what was handed in is changed: %s, %s, %v", short(x), short(y), room)
		}
	}
}

// What lies behind the end of a list is of no moment.
func TestRoomBehindTheEnd(t *testing.T) {
	x := roomy(read(t, "a + 2 * a"))
	env := constants("a", 4, "a", 5, "", most+1)[:1]
	evalIs(t, x, 12, env...)
	namesAre(t, x, "a")
	putIs(t, x, "a", roomy(num(1)), at(two(api.EAdd, num(1), at(two(api.EMul, at(num(2), 1, 5), num(1)), 1, 7)), 1, 3))
	putIs(t, x, "behind", num(1), clone(x))
}

func TestNamesAreNewMemory(t *testing.T) {
	x := read(t, "b + a * c")
	first, _ := number.Names(x)
	second, _ := number.Names(x)
	for i := range first[:cap(first)] {
		first[:cap(first)][i] = "spoilt"
	}
	if !slices.Equal(second, []string{"a", "b", "c"}) {
		t.Errorf("what is done to one answer changes another: %q", second)
	}
	namesAre(t, x, "a", "b", "c")
	third, _ := number.Names(x)
	spoil(x.L)
	if !slices.Equal(third, []string{"a", "b", "c"}) {
		t.Errorf("what is done to what was handed in changes an answer: %q", third)
	}
}

// Neither an environment nor an error leaves a trace in what comes behind it.
func TestNothingIsKept(t *testing.T) {
	x := read(t, "a + b")
	for range 3 {
		evalIs(t, x, 3, constants("a", 1, "b", 2)...)
		evalFails(t, "a + b", x, fault(api.ErrName, 1, 1))
		evalFails(t, "a + b", x, fault(api.ErrName, 1, 5), constants("a", 1)...)
		evalFails(t, "a + b", x, fault(api.ErrOver, 1, 3), constants("a", most, "b", 1)...)
		evalFails(t, "a + b", x, fault(api.ErrArg, 0, 0), constants("a", 1, "b", 2, "a", 1)...)
		evalIs(t, x, 7, constants("b", 4, "a", 3)...)
		workIs(t, api.EDiv, 1, 0, 0, api.ErrZero)
		workIs(t, api.EDiv, 1, 1, 1, api.OK)
		putFails(t, "too much", nested(16, name("a")), "a", x, api.ErrLimit)
		putFails(t, "a wrong name", x, "use", x, api.ErrArg)
		putIs(t, x, "a", num(1), at(two(api.EAdd, num(1), at(name("b"), 1, 5)), 1, 3))
		namesAre(t, x, "a", "b")
	}
}
