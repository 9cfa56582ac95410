package emit_test

import (
	"bytes"
	"fmt"
	"slices"
	"strings"
	"testing"

	"recoup/api"
	"recoup/emit"
)

// behind fills the room behind the end of a list that is handed in.
const behind = 0xa5

// roomy is a list of the same elements with room behind its end.
func roomy[T any](list []T, fill T) []T {
	room := slices.Repeat([]T{fill}, len(list)+70)
	copy(room, list)
	return room[:len(list)]
}

func roomyProgram(p api.Program) api.Program {
	p.Steps = roomy(p.Steps, api.Step{Kind: api.XClear, D: behind})
	return p
}

// whole is all that a list's room has.
func whole[T any](list []T) []T {
	return list[:cap(list)]
}

func held(p api.Program) string {
	return fmt.Sprint(len(p.Steps), whole(p.Steps), p.Regs, p.Outs, p.Reads)
}

// shown is what all calls answer of a program, of bytes and of lines.
func shown(p api.Program, b []byte, s string) string {
	written, e := emit.Write(p)
	text, e1 := emit.Text(p)
	q, size, e2 := emit.Read(b)
	r, line, e3 := emit.ReadText(s)
	return fmt.Sprintln(written, e, text, e1, told(q), size, e2, told(r), line, e3)
}

// spoil writes over a list, the room behind its end too.
func spoil[T any](list []T, by T) {
	for i := range whole(list) {
		whole(list)[i] = by
	}
}

// some are programs of all kinds, such that can't be written among them.
func some() []kind {
	var made []kind
	for i, k := range slices.Concat(cannot(), atEdges(), ofFlows()) {
		if i%7 == 0 && len(k.p.Steps) < 1000 {
			made = append(made, k)
		}
	}
	for seed := range 300 {
		made = append(made, kind{fmt.Sprint("seed ", seed), seeded(seed).stray()}, kind{fmt.Sprint("seed ", seed), seeded(seed).program(seed % 10)})
	}
	return made
}

// Rule 5: what is handed in stays as it is, the room behind its end too, also
// where a call fails; that room is of no moment.
func TestWhatIsHandedInStays(t *testing.T) {
	for _, k := range some() {
		room := roomyProgram(k.p)
		want := held(room)
		emit.Write(room)
		emit.Text(room)
		if held(room) != want {
			t.Fatalf("%s: the program is changed: %.300s", k.name, told(k.p))
		}
		if one, other := shown(room, nil, ""), shown(k.p, nil, ""); one != other {
			t.Errorf("%s: %.300s, without room behind %.300s", k.name, one, other)
		}
	}
}

// What stands behind the end of bytes is not read, not even if it would go on
// with a program.
func TestBytesThatAreHandedInStay(t *testing.T) {
	look := func(b []byte, fill byte) {
		room := roomy(b, fill)
		want := slices.Clone(whole(room))
		emit.Read(room)
		if !bytes.Equal(whole(room), want) {
			t.Fatalf("the bytes are changed: %x", b)
		}
		if one, other := shown(api.Program{}, room, ""), shown(api.Program{}, b, ""); one != other {
			t.Errorf("%.300s, without room behind %.300s", one, other)
		}
	}
	for seed := range 200 {
		s := seeded(seed)
		b := slowWrite(s.program(s.below(6)))
		for size := range len(b) + 1 {
			for _, fill := range []byte{0, 1, behind} {
				look(b[:size:size], fill)
			}
		}
		if len(b) > 20 {
			look(turned(b, s.below(len(b)), byte(s.below(256))), 0)
			readFails(t, "the rest behind the end", b[:len(b)-1], api.ErrShort)
		}
	}
}

func TestWhatIsAnsweredIsNewMemory(t *testing.T) {
	everyProgram(func(name string, p api.Program) {
		if len(p.Steps) > 300 {
			return
		}
		p = roomyProgram(p)
		want, b := held(p), roomy(slowWrite(p), behind)
		wantBytes, text := slices.Clone(whole(b)), slowText(p)
		first, second := must(emit.Write(p)), must(emit.Write(p))
		one, _, _ := emit.Read(b)
		other, _, _ := emit.Read(b)
		ofText, _, _ := emit.ReadText(text)
		another, _, _ := emit.ReadText(text)
		is := told(p)
		spoil(first, 77)
		spoil(one.Steps, api.Step{Kind: 77})
		spoil(ofText.Steps, api.Step{Kind: 78})
		if !bytes.Equal(second, b) || told(other) != is || told(another) != is || held(p) != want || !bytes.Equal(whole(b), wantBytes) {
			t.Fatalf("%s: what is done to an answer changes another, or what was handed in", name)
		}
		if shown(p, b, text) != fmt.Sprintln(second, api.OK, text, api.OK, is, len(b), api.OK, is, 0, api.OK) {
			t.Fatalf("%s: what is done to an answer changes a later one", name)
		}
		spoil(p.Steps, api.Step{Kind: 79})
		spoil(b, 80)
		if !bytes.Equal(second, wantBytes[:len(second)]) || told(other) != is || told(another) != is {
			t.Fatalf("%s: what is done to what was handed in changes an answer", name)
		}
	})
}

// Rule 4: nil and a list without elements are the same.
func TestNilIsAListWithoutElements(t *testing.T) {
	for _, p := range []api.Program{{}, {Regs: 3}, {Outs: 1, Reads: 7}, {Regs: 300}} {
		q := p
		q.Steps = []api.Step{}
		if one, other := shown(p, nil, ""), shown(q, []byte{}, ""); one != other {
			t.Errorf("of nil %s, of no elements %s", one, other)
		}
	}
}

// Rule 3: errors leave no trace in what comes behind them.
func TestErrorsChangeNothing(t *testing.T) {
	p := seeded(5).program(9)
	b, text := slowWrite(p), slowText(p)
	want := shown(p, b, text)
	isStill := func() {
		t.Helper()
		if got := shown(p, b, text); got != want {
			t.Errorf("behind errors %.300s, ahead of them %.300s", got, want)
		}
	}
	for i, k := range cannot() {
		isRefused(t, k.name, k.p)
		if i%10 == 0 {
			isStill()
		}
	}
	for _, wrong := range [][]byte{nil, b[:len(b)-1], turned(b, 0, 0x81, 2), bytes.Repeat([]byte{0xff}, 30)} {
		if _, _, e := emit.Read(wrong); e == api.OK {
			t.Errorf("%x is read", wrong)
		}
		isStill()
	}
	for _, wrong := range []string{"", text[1:], text[:len(text)-1], text + "\n", strings.ToUpper(text)} {
		if _, _, e := emit.ReadText(wrong); e != api.ErrForm {
			t.Errorf("%q is read", wrong)
		}
		isStill()
	}
}
