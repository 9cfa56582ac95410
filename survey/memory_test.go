package survey_test

import (
	"bytes"
	"fmt"
	"math"
	"slices"
	"testing"

	"recoup/api"
	"recoup/survey"
)

// behind fills the room behind the end of a list that is handed in.
const behind = 0xa5

// roomy is a list of the same elements with room behind its end.
func roomy[T any](list []T, fill T) []T {
	room := slices.Repeat([]T{fill}, len(list)+70)
	copy(room, list)
	return room[:len(list)]
}

// roomyLayout is a layout whose lists have room behind their ends.
func roomyLayout(l api.Layout) api.Layout {
	l.Code.G.Data, l.Code.Groups, l.Homes = roomy(l.Code.G.Data, behind), roomy(l.Code.Groups, behind), roomy(l.Homes, behind)
	return l
}

// whole is all that a list's room has.
func whole[T any](list []T) []T {
	return slices.Clone(list[:cap(list)])
}

// held is what a layout's lists have, the room behind their ends too.
func held(l api.Layout) string {
	return fmt.Sprint(whole(l.Code.G.Data), whole(l.Code.Groups), whole(l.Homes), l.Domains, l.Tolerate, l.Code.G.Rows, l.Code.G.Cols)
}

// heldReport is what a report's lists have, the room behind their ends too.
func heldReport(r api.Report) string {
	return fmt.Sprint(r.Looked, r.Tolerance, whole(r.Fatal), whole(r.Domains), whole(r.Aisles))
}

// shown is what all calls answer of a layout and of a number, as a text.
func shown(l api.Layout, n int) string {
	sets, well := gone(survey.Patterns(l))
	r, e := survey.Look(l)
	ok, e1 := survey.Survives(l, api.Set(n))
	least, e2 := survey.Distance(l.Code.G, n)
	return fmt.Sprintln(sets, well, r, e, ok, e1, least, e2, survey.Text(r))
}

// handed are layouts of all kinds, such that calls refuse among them.
func handed() []api.Layout {
	var made []api.Layout
	for turn, k := range codes() {
		blocks := k.c.G.Rows
		made = append(made, alone(k, min(3, blocks)), laid(k, places(blocks)[turn], 1), laid(k, places(blocks)[turn], 0))
	}
	for _, g := range slices.Concat(noGenerators(), notRight()[:12]) {
		made = append(made, api.Layout{Code: api.Code{G: g}, Homes: []int{0, 1}, Domains: 2})
	}
	return append(made, api.Layout{},
		turned(func(l *api.Layout) { l.Homes[5] = 4 }),
		turned(func(l *api.Layout) { l.Tolerate = -1 }),
		turned(func(l *api.Layout) { slices.Reverse(l.Code.Groups) }))
}

// Rule 5: what is handed in stays as it is, the room behind its end too, also
// where a call fails; that room is of no moment, and nothing is kept.
func TestWhatIsHandedInStays(t *testing.T) {
	for i, l := range handed() {
		room := roomyLayout(l)
		want := held(room)
		for _, n := range []int{0, 1, 2, 3, -1, math.MaxInt, math.MinInt} {
			told := shown(room, n)
			if held(room) != want {
				t.Fatalf("the layout %d is changed by the calls with %d", i, n)
			}
			if other := shown(l, n); other != told {
				t.Errorf("the layout %d, %d: %s, without room behind %s", i, n, told, other)
			}
		}
	}
}

// A loop that is left early leaves what is handed in as it is, too.
func TestWhatIsHandedInStaysWhereALoopIsLeft(t *testing.T) {
	l := roomyLayout(turned(func(*api.Layout) {}))
	want := held(l)
	for stop := range 23 {
		told := 0
		for range survey.Patterns(l) {
			if told++; told == stop {
				break
			}
		}
		if held(l) != want {
			t.Fatalf("what is handed in is changed, behind %d patterns", stop)
		}
	}
}

func TestTextLeavesTheReport(t *testing.T) {
	for seed := range 300 {
		bare := anyReport(seeded(seed))
		r := bare
		r.Fatal, r.Domains, r.Aisles = roomy(r.Fatal, behind), roomy(r.Domains, true), roomy(r.Aisles, true)
		want := heldReport(r)
		told := survey.Text(r)
		if heldReport(r) != want {
			t.Errorf("the report %v is changed", r)
		}
		if other := survey.Text(bare); other != told {
			t.Errorf("%q, without room behind %q", told, other)
		}
	}
}

// spoil writes over a list, the room behind its end too.
func spoil[T any](list []T, by T) {
	list = list[:cap(list)]
	for i := range list {
		list[i] = by
	}
}

// What is done to one list of a report changes none of its others, no other
// report, and not what was handed in; nor the other way round.
func TestReportsAreNewMemory(t *testing.T) {
	everyLayout(func(k code, l api.Layout) {
		l = roomyLayout(l)
		want := held(l)
		first, _ := survey.Look(l)
		second, _ := survey.Look(l)
		told := slowReport(l, k.recovers)
		spoil(first.Fatal, 77)
		if !slices.Equal(first.Domains, told.Domains) || !slices.Equal(first.Aisles, told.Aisles) {
			t.Errorf("%v: what is done to Fatal changes the domains", k)
		}
		for _, by := range []bool{true, false} {
			spoil(first.Domains, by)
			if !slices.Equal(first.Aisles, told.Aisles) {
				t.Errorf("%v: what is done to Domains changes Aisles", k)
			}
		}
		spoil(first.Aisles, true)
		if slices.Contains(first.Domains, true) {
			t.Errorf("%v: what is done to Aisles changes Domains", k)
		}
		if third, _ := survey.Look(l); !sameReport(second, told) || !sameReport(third, told) {
			t.Errorf("%v: what is done to a report changes another", k)
		}
		if held(l) != want {
			t.Errorf("%v: what is done to a report changes what was handed in", k)
		}
		spoil(l.Code.G.Data, behind)
		spoil(l.Code.Groups, behind)
		spoil(l.Homes, behind)
		if !sameReport(second, told) {
			t.Errorf("%v: what is done to what was handed in changes a report", k)
		}
	})
}

// A text stays as it is, whatever becomes of its report.
func TestTextsAreNewMemory(t *testing.T) {
	r, _ := survey.Look(from(t, "code x = reed(2, 1); use x; domains 2; tolerate 2;"))
	told := survey.Text(r)
	want := string(bytes.Clone([]byte(told)))
	spoil(r.Fatal, 0)
	spoil(r.Domains, true)
	if survey.Text(r) == told || told != want {
		t.Errorf("behind a change %q, ahead of it %q", told, want)
	}
}

// Rule 4: nil and a list without elements are the same.
func TestNilIsAListWithoutElements(t *testing.T) {
	for _, sides := range [][2]int{{0, 0}, {0, 64}, {64, 0}, {2, 2}, {0, 1}} {
		g := api.Matrix{Rows: sides[0], Cols: sides[1]}
		for _, n := range []int{0, 1, -1} {
			one := api.Layout{Code: api.Code{G: g}, Domains: 1}
			other := api.Layout{Code: api.Code{G: g, Groups: []api.Set{}}, Homes: []int{}, Domains: 1}
			other.Code.G.Data = []byte{}
			if shown(one, n) != shown(other, n) {
				t.Errorf("%d, %d: of nil %s, of no elements %s", sides, n, shown(one, n), shown(other, n))
			}
		}
	}
	bare := from(t, "code x = reed(2, 1); use x; tolerate 2;")
	empty := bare
	bare.Code.Groups, empty.Code.Groups = nil, []api.Set{}
	if shown(bare, 1) != shown(empty, 1) {
		t.Errorf("without groups %s, of nil %s", shown(empty, 1), shown(bare, 1))
	}
	if one, other := survey.Text(api.Report{}), survey.Text(api.Report{Fatal: []api.Set{}, Domains: []bool{}, Aisles: []bool{}}); one != other {
		t.Errorf("of nil %q, of no elements %q", one, other)
	}
}

// Rule 3: errors, and loops that are left, leave no trace in what comes behind
// them.
func TestErrorsChangeNothing(t *testing.T) {
	l := turned(func(*api.Layout) {})
	want := shown(l, 2)
	for range 3 {
		isRefused(t, "nothing", api.Layout{})
		isRefused(t, "a home", turned(func(l *api.Layout) { l.Homes[0] = 9 }))
		distanceIs(t, "no generator", api.Matrix{}, 1, 0, api.ErrShape)
		distanceIs(t, "below 0", l.Code.G, -1, 0, api.ErrArg)
		distanceIs(t, "too many sets", identity(64), 64, 0, api.ErrLimit)
		for range survey.Patterns(l) {
			break
		}
		if ok, e := survey.Survives(l, 16); ok || e != api.ErrArg {
			t.Errorf("Survives of a domain that is not there = %v, %v", ok, e)
		}
		if got := shown(l, 2); got != want {
			t.Errorf("behind errors %s, ahead of them %s", got, want)
		}
	}
}
