package emit_test

import (
	"bytes"
	"fmt"
	"slices"
	"testing"

	"recoup/api"
	"recoup/emit"
	"recoup/regs"
)

// P24.3, by the package's own answers alone.
func TestReadOfWriteIsTheProgram(t *testing.T) {
	everyProgram(func(name string, p api.Program) {
		b := must(emit.Write(p))
		s := seeded(len(b))
		for _, behind := range [][]byte{nil, {0}, {1, 7}, {0xff}, s.list(1 + s.below(30)), b} {
			q, size, e := emit.Read(joined(b, behind))
			if !regs.Same(p, q) || size != len(b) || e != api.OK {
				t.Fatalf("%s and %.20x: Read = %.300s, %d, %v, want %.300s, %d", name, behind, told(q), size, e, told(p), len(b))
			}
		}
	})
}

func TestReadTextOfTextIsTheProgram(t *testing.T) {
	everyProgram(func(name string, p api.Program) {
		if q, line, e := emit.ReadText(must(emit.Text(p))); !regs.Same(p, q) || line != 0 || e != api.OK {
			t.Fatalf("%s: ReadText = %.300s, %d, %v, want %.300s", name, told(q), line, e, told(p))
		}
	})
}

// Whatever is read, of bytes or lines of any kind, has no other form.
func TestWhatIsReadIsWrittenAsItWas(t *testing.T) {
	read := 0
	for seed := range 30000 {
		s := seeded(seed)
		b := joined(s.list(2), s.list(8), []byte{byte(s.below(4))}, s.list(16))
		for i := range b {
			if i < 2 || i > 10 {
				b[i] = byte(s.below(one(s, []int{6, 70, 256})))
			}
		}
		p, size, e := emit.Read(b)
		if e != api.OK {
			continue
		}
		read++
		if again := must(emit.Write(p)); !bytes.Equal(again, b[:size]) {
			t.Fatalf("%x is read, %x is written", b[:size], again)
		}
		text := must(emit.Text(p))
		if q, _, e := emit.ReadText(text); e != api.OK || must(emit.Text(q)) != text {
			t.Fatalf("%q is read, %q is told", text, must(emit.Text(q)))
		}
	}
	if read < 3000 {
		t.Errorf("%d are read", read)
	}
}

// formsAre keeps the bytes and the lines of programs, and tells of two programs
// that are not the same, but have one of them alike.
type formsAre struct {
	bytes, lines map[string]string
}

func (f formsAre) add(t *testing.T, p api.Program) {
	t.Helper()
	is := told(p)
	for _, forms := range []struct {
		seen map[string]string
		form string
	}{{f.bytes, string(must(emit.Write(p)))}, {f.lines, must(emit.Text(p))}} {
		if other, ok := forms.seen[forms.form]; ok && other != is {
			t.Errorf("%.300s and %.300s have one form, %.300q", other, is, forms.form)
		}
		forms.seen[forms.form] = is
	}
}

func TestProgramsThatAreNotTheSameHaveOtherForms(t *testing.T) {
	seen := formsAre{map[string]string{}, map[string]string{}}
	everyProgram(func(name string, p api.Program) {
		if len(p.Steps) > 300 {
			return
		}
		seen.add(t, p)
		if len(p.Steps) > 20 {
			return
		}
		for _, other := range nextTo(p) {
			seen.add(t, other)
		}
	})
	if len(seen.bytes) != len(seen.lines) || len(seen.bytes) < 5000 {
		t.Errorf("%d forms of bytes, %d of lines", len(seen.bytes), len(seen.lines))
	}
}

// nextTo are programs that can be written, and are another one by little.
func nextTo(p api.Program) []api.Program {
	var made []api.Program
	turned := func(turn func(p *api.Program)) {
		q := copied(p)
		turn(&q)
		if slowCan(q) {
			made = append(made, q)
		}
	}
	turned(func(q *api.Program) { q.Regs++ })
	turned(func(q *api.Program) { q.Outs++ })
	turned(func(q *api.Program) { q.Regs, q.Outs = q.Outs, q.Regs })
	for _, i := range []int{0, 1, 7, 8, 31, 32, 62, 63} {
		turned(func(q *api.Program) { q.Reads ^= 1 << i })
	}
	for i := range p.Steps {
		turned(func(q *api.Program) { q.Steps[i].D ^= 1 })
		turned(func(q *api.Program) { q.Steps[i].S ^= 1 })
		turned(func(q *api.Program) { q.Steps[i].C ^= 1 })
		turned(func(q *api.Program) { q.Steps[i].D, q.Steps[i].S = q.Steps[i].S, q.Steps[i].D })
		turned(func(q *api.Program) { q.Steps[i].Kind ^= 6 })
		turned(func(q *api.Program) { q.Steps = slices.Delete(q.Steps, i, i+1) })
		turned(func(q *api.Program) { q.Steps = slices.Insert(q.Steps, i, q.Steps[i]) })
		turned(func(q *api.Program) { q.Steps[i], q.Steps[0] = q.Steps[0], q.Steps[i] })
	}
	turned(func(q *api.Program) { q.Steps = append(q.Steps, api.Step{Kind: 1}) })
	return made
}

// Every program of some few small ones has a form of its own, that is read.
func TestAllSmallPrograms(t *testing.T) {
	seen := formsAre{map[string]string{}, map[string]string{}}
	var small []api.Step
	for d := range 2 {
		small = append(small, api.Step{Kind: 1, D: d})
		for s := range 2 {
			small = append(small, api.Step{Kind: 2, D: d, S: s}, api.Step{Kind: 4, D: d, S: s}, api.Step{Kind: 3, D: d, S: s}, api.Step{Kind: 3, D: d, S: s, C: 1})
		}
	}
	count := 0
	look := func(list ...api.Step) {
		for head := range 8 {
			p := api.Program{Steps: list, Regs: head & 1, Outs: head >> 1 & 1, Reads: api.Set(head >> 2)}
			seen.add(t, p)
			readIs(t, "small", must(emit.Write(p)), p, len(must(emit.Write(p))))
			readTextIs(t, "small", must(emit.Text(p)), p)
			count++
		}
	}
	look()
	for _, one := range small {
		look(one)
		for _, other := range small {
			look(one, other)
		}
	}
	if len(seen.bytes) != count || len(seen.lines) != count {
		t.Errorf("%s", fmt.Sprint(count, " programs, ", len(seen.bytes), " forms of bytes, ", len(seen.lines), " of lines"))
	}
}
