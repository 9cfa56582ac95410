package elab_test

import (
	"reflect"
	"slices"
	"testing"

	"recoup/api"
	"recoup/elab"
)

// Rule 5: what is answered is new memory, what is handed in stays. Rule 3: an
// error changes nothing.

// span is where a list lies, the room behind its end too.
type span struct{ from, end uintptr }

// spans are where all lists of a value lie, those in the room behind their ends
// left out.
func spans(v reflect.Value) []span {
	var made []span
	switch v.Kind() {
	case reflect.Slice:
		if v.Cap() > 0 {
			made = append(made, span{v.Pointer(), v.Pointer() + uintptr(v.Cap())*v.Type().Elem().Size()})
		}
		for i := range v.Len() {
			made = append(made, spans(v.Index(i))...)
		}
	case reflect.Struct:
		for i := range v.NumField() {
			made = append(made, spans(v.Field(i))...)
		}
	}
	return made
}

// lie tells whether some of these lists share memory.
func lie(values ...any) bool {
	var all []span
	for _, v := range values {
		all = append(all, spans(reflect.ValueOf(v))...)
	}
	slices.SortFunc(all, func(a, b span) int { return int(a.from) - int(b.from) })
	for i := range all {
		if i > 0 && all[i].from < all[i-1].end {
			return true
		}
	}
	return false
}

// spoil writes over all numbers of all lists of a value, the room behind their
// ends too.
func spoil(v reflect.Value, inList bool) {
	switch v.Kind() {
	case reflect.Slice:
		v = v.Slice(0, v.Cap())
		for i := range v.Len() {
			spoil(v.Index(i), true)
		}
	case reflect.Struct:
		for i := range v.NumField() {
			spoil(v.Field(i), inList)
		}
	case reflect.Int:
		if inList {
			v.SetInt(-7)
		}
	default:
		if inList {
			v.SetUint(^v.Uint() & 0xff)
		}
	}
}

// whole is a copy of a value, the room behind the ends of its lists too.
func whole(v reflect.Value) reflect.Value {
	made := reflect.New(v.Type()).Elem()
	switch v.Kind() {
	case reflect.Slice:
		v = v.Slice(0, v.Cap())
		for i := range v.Len() {
			made = reflect.Append(made, whole(v.Index(i)))
		}
	case reflect.Struct:
		for i := range v.NumField() {
			made.Field(i).Set(whole(v.Field(i)))
		}
	default:
		made.Set(v)
	}
	return made
}

// stays asks whether something leaves a value as it is.
func stays(t *testing.T, what string, v any, do func()) {
	t.Helper()
	held := whole(reflect.ValueOf(v)).Interface()
	do()
	if !reflect.DeepEqual(whole(reflect.ValueOf(v)).Interface(), held) {
		t.Errorf("%s is changed", what)
	}
}

// roomy is a copy of a list with something behind its end.
func roomy[T any](l []T, behind T) []T {
	return append(slices.Clone(l), behind, behind, behind)[:len(l)]
}

// roomyCore is a core all of whose lists have room behind their ends.
func roomyCore(c api.Core) api.Core {
	c.Codes, c.List = roomy(c.Codes, reed(9, 9)), roomy(c.List, 99)
	for i := range c.Codes {
		c.Codes[i].G.Data = roomy(c.Codes[i].G.Data, 0xa5)
	}
	return c
}

// roomyLayout is a layout all of whose lists have room behind their ends.
func roomyLayout(l api.Layout) api.Layout {
	l.Code.G.Data, l.Code.Groups, l.Homes = roomy(l.Code.G.Data, 0xa5), roomy(l.Code.Groups, 0xa5), roomy(l.Homes, 99)
	return l
}

// calls are those that answer lists, as calls of a core or of its text.
func calls() map[string]func(text string, c api.Core) any {
	return map[string]func(text string, c api.Core) any{
		"Codes": func(_ string, c api.Core) any { made, _ := elab.Codes(c); return made },
		"Build": func(_ string, c api.Core) any { made, _ := elab.Build(c); return made },
		"From":  func(text string, _ api.Core) any { made, _ := elab.From(text); return made },
	}
}

// cores are such of which one list may be handed on as an answer: matrices,
// lists of domains, joins with and without groups.
func cores() map[string]api.Core {
	made := map[string]api.Core{}
	listed := used(explicit(of(1, 3, 4)), explicit(of(2, 1, 2, 3, 4)))
	listed.Place, listed.List = api.PList, []int{1, 0}
	made["code x = matrix [3; 4]; code y = matrix [1, 2; 3, 4]; use y; place list [1, 0];"] = listed
	made["code x = local(1, 1, 0); code y = matrix [3]; code z = join(x, y); use z;"] = paired(api.SJoin, 0, 1, three(api.SLocal, 1, 1, 0), explicit(of(1, 3)))
	made["code x = local(1, 1, 0); code y = matrix [1]; code z = product(x, y); use z;"] = paired(api.SProduct, 0, 1, three(api.SLocal, 1, 1, 0), explicit(of(1, 1)))
	for seed := range 300 {
		text, c := written(seed)
		made[text] = c
	}
	return made
}

func TestAnswersAreNewMemory(t *testing.T) {
	for name, call := range calls() {
		for text, c := range cores() {
			c = roomyCore(c)
			first, second := call(text, c), call(text, c)
			want := shown(first)
			if lie(first, second) {
				t.Errorf("%s: two answers of %s, or two lists of one, share memory", name, short(text))
			}
			if lie(first, c) {
				t.Errorf("%s: an answer of %s shares memory with what was handed in", name, short(text))
			}
			stays(t, "what is handed in", c, func() { spoil(reflect.ValueOf(first), false) })
			if third := call(text, c); shown(second) != want || shown(third) != want {
				t.Errorf("%s: what is done to an answer of %s changes another", name, short(text))
			}
			spoil(reflect.ValueOf(c), false)
			if shown(second) != want {
				t.Errorf("%s: what is done to what was handed in changes an answer of %s", name, short(text))
			}
		}
	}
}

// Neither is what is handed in changed, nor what lies behind its end; and what
// lies there is of no moment.
func TestWhatIsHandedInStays(t *testing.T) {
	for text, c := range cores() {
		room := roomyCore(c)
		for name, call := range calls() {
			stays(t, "a core", room, func() {
				if got, want := call(text, room), call(text, c); shown(got) != shown(want) {
					t.Errorf("%s of %s hangs on the room behind", name, short(text))
				}
			})
		}
		bare, e := elab.Build(c)
		l := roomyLayout(bare)
		stays(t, "a layout", l, func() {
			mayBe(t, "a layout with room", e == api.OK, l)
			sameIs(t, "a layout with room", true, l, bare)
		})
	}
	// Groups and homes that do not rise stay in their order.
	l := roomyLayout(relaid(func(l *api.Layout) { l.Code.Groups = []api.Set{set(2, 3, 5), 0, set(0, 1, 4), 0} }))
	stays(t, "a layout", l, func() { mayBe(t, "groups in any order", true, l) })
	for what, turn := range wrongTurns() {
		c := turned(full(), turn)
		stays(t, what, c, func() {
			elab.Codes(c)
			elab.Build(c)
		})
	}
}

// One list may stand in several places.
func TestListsInSeveralPlaces(t *testing.T) {
	data := []byte{1, 2, 3, 4, 5, 6}
	c := used(explicit(of(1, data[:4]...)), explicit(of(2, data[:4]...)), explicit(of(2, data...)))
	want := []api.Code{code(of(1, 1, 2, 3, 4)), code(of(2, 1, 2, 3, 4)), code(of(2, 1, 2, 3, 4, 5, 6))}
	codesAre(t, "one list", c, want...)
	codes, _ := elab.Codes(c)
	if lie(codes) || lie(codes, data) {
		t.Errorf("Codes of one list share memory")
	}
	l := laid()
	l.Code.Groups = slices.Repeat([]api.Set{set(0, 1, 4)}, 3)
	mayBe(t, "one group several times", true, l)
	sameIs(t, "a layout with itself", true, l, l)
	// A core whose list of homes is handed in twice, to two cores.
	homes := []int{2, 0, 1}
	a, b := used(reed(1, 2)), used(reed(2, 1))
	a.Place, a.List, b.Place, b.List = api.PList, homes, api.PList, homes
	first, _ := elab.Build(a)
	second, _ := elab.Build(b)
	if lie(first, second, homes) || !slices.Equal(first.Homes, homes) || !slices.Equal(second.Homes, homes) {
		t.Errorf("the homes %v and %v share memory, or are others", first.Homes, second.Homes)
	}
}

// Errors of all kinds, again and again, leave no trace in what comes behind
// them.
func TestErrorsChangeNothing(t *testing.T) {
	for range 3 {
		for _, turn := range wrongTurns() {
			elab.Codes(turned(full(), turn))
			elab.Build(turned(full(), turn))
		}
		buildFails(t, "noughts", used(explicit(of(1, 0))), api.ErrSingular)
		markFails(t, "code x = matrix [0]; @use x;", api.ErrSingular)
		markFails(t, "code x = reed(1, 1); use x; @use x;", api.ErrType)
		markFails(t, "code x = reed(1, 1); use @1;", api.ErrSyntax)
		mayBe(t, "nothing", false, api.Layout{})
		codesModelled(t, "a core behind errors", full())
		buildModelled(t, "a core behind errors", full())
		fromIs(t, "code x = reed(1, 1); use x;", placed(code(of(1, 1, 1))))
	}
}
